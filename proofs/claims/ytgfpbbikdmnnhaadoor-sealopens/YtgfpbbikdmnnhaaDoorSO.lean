/-
  The walk of SealOpens: what is opened, of any bytes at any place, is the reference's, or refused; sealed again it is as it was: the law returns true, in every memory that holds the package's table.
-/
import Derived.Test.YtgfpbbikdmnnhaaDoorS5
import Derived.Test.YtgfpbbikdmnnhaaDoorS7
import Derived.Test.YtgfpbbikdmnnhaaDoorFS
namespace Go.Proofs.YtgfpbbikdmnnhaaDoor
set_option linter.unusedVariables false
open Go.RowKit Plain

set_option maxRecDepth 20000 in
set_option maxHeartbeats 1000000 in
theorem opens_no_1 (K L : List Int) (p tail n : Int) (a : Option Addr) (len cap l : Nat) (w : World) (hT : Tab w) (hKl : K.length = 32) (hB : Bytes w a len (L.take len)) (hl3 : len ≤ 300) (hLb : Byt L) (hLl : L.length = l) (htb : 0 ≤ tail ∧ tail ≤ 255)
    (hE : (l = 192 ∧ len ≤ 192 ∧ (len : Int) % 2 = 0 ∧ ∀ i, len ≤ i → i < 192 → L.getD i 0 = tail) ∨ (l = len ∧ (¬ len < 192 ∨ (len : Int) % 2 = 1)))
    (C1 : Box (∀ x b c, Below w.heap.size w x → Bytes x b l L → l ≤ c → Calls Tryd.prog 12 #[.agg (u8s K), .int .u32 p, .slice b l c, .int .i64 n] x fun e w' => e = .returned (.tuple #[.int .u64 0, .slice none 0 0, .int .i64 1]) ∧ Below x.heap.size x w'))
    (C2 : Box (∀ x, Below w.heap.size w x → Calls Tryd.prog 13 #[.agg (u8s K), .int .u32 p, .string (strOfNums L), .int .i64 n] x fun e w' => e = .returned (.tuple #[.int .u64 0, .string ByteArray.empty, .int .i64 1]) ∧ Below x.heap.size x w')) :
    Calls Tryd.prog 4 #[.agg (u8s K), .int .u32 p, .slice a len cap, .int .u8 tail, .int .i64 n] w fun e w' => e = .returned (.bool true) ∧ Below w.heap.size w w' := by
  have HA : Box (∀ x, Below w.heap.size w x → Calls Tryd.prog 8 #[] x fun e w' => e = .returned (.bool true) ∧ Below x.heap.size x w') := ⟨fun x hx => awake_any x (hT.below hx)⟩
  obtain ⟨S, hS⟩ : ∃ S, w.heap.size = S := ⟨_, rfl⟩
  have HS : Hid (w.heap.size = S) := hS
  have H0 : Box ((w.alloc (.cells (u8s K) 23)).heap[S]? = some (.cells (u8s K) 23 (0, 0)) ∧ Below w.heap.size w (w.alloc (.cells (u8s K) 23))) := ⟨al_at hS, (Below.refl _ _).alloc (Nat.le_refl _) _⟩
  have d1 : ¬ 300 < (len : Int) := by omega
  have HB : Box (∀ x, Below w.heap.size w x → Bytes x a len (L.take len)) := ⟨fun x hx => hB.below hx⟩
  have HLb : Box (Byt L ∧ L.length = l) := ⟨hLb, hLl⟩
  have HE : Box ((l = 192 ∧ len ≤ 192 ∧ (len : Int) % 2 = 0 ∧ ∀ i, len ≤ i → i < 192 → L.getD i 0 = tail) ∨ (l = len ∧ (¬ len < 192 ∨ (len : Int) % 2 = 1))) := ⟨hE⟩
  clear hS hT hB hLb hLl hE
  go_enter Tryd.func4, Tryd.ntmps4
  go_upto_region 1 with fail
  rw [HS.out]
  generalize w.alloc (.cells (u8s K) 23) = x0 at H0 ⊢
  go_wp2_with (first
    | (refine wpList_app rfl (.tmp 27) (.tmp 28) rfl w1.heap.size 0 len cap _ [] (L.take len) a w1 rfl rfl (World.ownsRow_nil _ _ _ _) (HB.out w1 H1.out.2) (by omega) (Below.refl _ _) (Nat.le_refl _) ?_; intro v2 w2 H2')
    | (go_at_call 8; refine Calls.mono (HA.out x0 H0.out.2) ?_; rintro e w1 ⟨rfl, hb⟩; have H1 : Box (w1.heap[S]? = some (.cells (u8s K) 23 (0, 0)) ∧ Below w.heap.size w w1) := ⟨row_on H0.out.1 hb, below_to H0.out.2 hb⟩; clear hb))
  have H2 : Box (w2.ownsRow w1.heap.size 5 1 v2 len ((L.take len).map (Value.int .u8)) ∧ Below w1.heap.size w1 w2 ∧ w1.heap.size ≤ w2.heap.size) := ⟨by
    have := H2'.out.1
    rwa [Nat.zero_add, List.nil_append] at this, H2'.out.2⟩
  clear H2' HA H0 HB
  go_loopw [12] (fun r wr => ∃ k : Nat, len ≤ k ∧ k ≤ l ∧ Box (wr.ownsRow w1.heap.size 5 1 r k ((L.take k).map (Value.int .u8)) ∧ Below w1.heap.size w1 wr ∧ w1.heap.size ≤ wr.heap.size)) (fun r _ => 192 - lenV r)
  case atStart => exact ⟨len, Nat.le_refl _, by rcases HE.out with h | h <;> omega, H2⟩
  case round =>
    clear H2
    obtain ⟨k, hk1, hk2, HO⟩ := hrel
    obtain ⟨ar, car, hr⟩ := own_form HO.out.1
    subst hr
    by_cases hlt : k < l
    · have hh : l = 192 ∧ (len : Int) % 2 = 0 ∧ L.getD k 0 = tail := by
        rcases HE.out with h | h
        · exact ⟨h.1, h.2.2.1, h.2.2.2 k hk1 (by omega)⟩
        · omega
      obtain ⟨hl, hp1, htl⟩ := hh
      have hk192 : k < 192 := by omega
      have hp2 : Int.tmod (len : Int) 2 = 0 := by rw [Int.tmod_eq_emod_of_nonneg (by omega)]; exact hp1
      have Hl : Box (l = 192) := ⟨hl⟩
      have Hlt : Box (k < l ∧ L.getD k 0 = tail) := ⟨hlt, htl⟩
      clear hl hlt hk2 htl
      go_wp2_with (refine wpList_app rfl (.tmp 39) (.tmp 41) rfl w1.heap.size k 1 1 _ (L.take k) [tail] (some ⟨wr.heap.size, 0, none⟩) w1 rfl rfl (HO.out.1.alloc _) (bytes_of_row (X := [tail]) (t := 5) (fr := (0, 0)) (byt_cons _ _ htb byt_nil) (al_at rfl)) (by omega) (HO.out.2.1.alloc HO.out.2.2 _) (by simp; have := HO.out.2.2; omega) ?_; intro v3 w3 H3)
      have H4 : Box (w3.ownsRow w1.heap.size 5 1 v3 (k + 1) ((L.take (k + 1)).map (Value.int .u8)) ∧ Below w1.heap.size w1 w3 ∧ w1.heap.size ≤ w3.heap.size) := ⟨by
        have := H3.out.1
        rwa [← Hlt.out.2, take_snoc L k (by rw [HLb.out.2]; exact Hlt.out.1)] at this, H3.out.2⟩
      clear H3 HO
      go_roundw
      case rel => exact ⟨k + 1, by omega, by have := Hlt.out.1; omega, H4⟩
      case measure =>
        obtain ⟨a9, c9, rfl⟩ := own_form H4.out.1
        simp [lenV]; omega
    · have hkl : k = l := by omega
      have HBy : Box (w.heap.size ≤ w1.heap.size ∧ wr.heap[S]? = some (.cells (u8s K) 23 (0, 0)) ∧ Below w.heap.size w wr ∧ Bytes wr ar k L ∧ k ≤ car) := ⟨H1.out.2.size, by
        rw [HO.out.2.1.block S (Array.getElem?_eq_some_iff.1 H1.out.1).1]; exact H1.out.1, H1.out.2.trans (HO.out.2.1.mono H1.out.2.size), by
        have h := own_bytes HO.out.1 (byt_take L k HLb.out.1)
        rwa [List.take_of_length_le (by rw [HLb.out.2, hkl]; exact Nat.le_refl _)] at h, (own_cap HO.out.1).1⟩
      have HE2 : Box (k = l ∧ (¬ k < 192 ∨ (k < 192 ∧ (len : Int) % 2 = 1))) := ⟨hkl, by rcases HE.out with h | h <;> omega⟩
      rw [← HE2.out.1] at C1
      clear hkl hlt hk1 hk2 HO HE HLb H1 d1 hl3
      by_cases h192 : k < 192
      · have hp1 : (len : Int) % 2 = 1 := by rcases HE2.out.2 with h | h <;> omega
        have hp2 : Int.tmod (len : Int) 2 = 1 := by rw [Int.tmod_eq_emod_of_nonneg (by omega)]; exact hp1
        go_wp2_with (first
          | (go_at_call 13; refine Calls.mono (C2.out w3 H3.out.2.1) ?_; rintro e w4 ⟨rfl, hb⟩; have H4 : Box (Below w.heap.size w w4) := ⟨below_to H3.out.2.1 hb⟩; have hcz := conv_zero w4 none 0; clear hb)
          | (refine wpList_seeKey S K hKl H3.out.1 rfl (.tmp 5) rfl rfl ?_)
          | (go_at_call 12; refine Calls.mono (C1.out wr ar car HBy.out.2.2.1 HBy.out.2.2.2.1 HBy.out.2.2.2.2) ?_; rintro e w3 ⟨rfl, hb⟩; have H3 : Box (w3.heap[S]? = some (.cells (u8s K) 23 (0, 0)) ∧ Below w.heap.size w w3 ∧ Bytes w3 ar k L) := ⟨row_on HBy.out.2.1 hb, below_to HBy.out.2.2.1 hb, HBy.out.2.2.2.1.below hb⟩; have cv3 := conv_bytes (HBy.out.2.2.2.1.below hb) car; clear hb)
          | (refine wpList_seeKey S K hKl HBy.out.2.1 rfl (.tmp 5) rfl rfl ?_))
        go_ret
        exact ⟨rfl, H4.out⟩
      · go_wp2_with (first
          | (go_at_call 13; refine Calls.mono (C2.out w3 H3.out.2.1) ?_; rintro e w4 ⟨rfl, hb⟩; have H4 : Box (Below w.heap.size w w4) := ⟨below_to H3.out.2.1 hb⟩; have hcz := conv_zero w4 none 0; clear hb)
          | (refine wpList_seeKey S K hKl H3.out.1 rfl (.tmp 5) rfl rfl ?_)
          | (go_at_call 12; refine Calls.mono (C1.out wr ar car HBy.out.2.2.1 HBy.out.2.2.2.1 HBy.out.2.2.2.2) ?_; rintro e w3 ⟨rfl, hb⟩; have H3 : Box (w3.heap[S]? = some (.cells (u8s K) 23 (0, 0)) ∧ Below w.heap.size w w3 ∧ Bytes w3 ar k L) := ⟨row_on HBy.out.2.1 hb, below_to HBy.out.2.2.1 hb, HBy.out.2.2.2.1.below hb⟩; have cv3 := conv_bytes (HBy.out.2.2.2.1.below hb) car; clear hb)
          | (refine wpList_seeKey S K hKl HBy.out.2.1 rfl (.tmp 5) rfl rfl ?_))
        go_ret
        exact ⟨rfl, H4.out⟩

set_option maxRecDepth 20000 in
set_option maxHeartbeats 1000000 in
theorem opens_no_11 (K L : List Int) (p tail n : Int) (a : Option Addr) (len cap l : Nat) (w : World) (hT : Tab w) (hKl : K.length = 32) (hB : Bytes w a len (L.take len)) (hl3 : len ≤ 300) (hLb : Byt L) (hLl : L.length = l) (htb : 0 ≤ tail ∧ tail ≤ 255)
    (hE : (l = 192 ∧ len ≤ 192 ∧ (len : Int) % 2 = 0 ∧ ∀ i, len ≤ i → i < 192 → L.getD i 0 = tail) ∨ (l = len ∧ (¬ len < 192 ∨ (len : Int) % 2 = 1)))
    (C1 : Box (∀ x b c, Below w.heap.size w x → Bytes x b l L → l ≤ c → Calls Tryd.prog 12 #[.agg (u8s K), .int .u32 p, .slice b l c, .int .i64 n] x fun e w' => e = .returned (.tuple #[.int .u64 0, .slice none 0 0, .int .i64 11]) ∧ Below x.heap.size x w'))
    (C2 : Box (∀ x, Below w.heap.size w x → Calls Tryd.prog 13 #[.agg (u8s K), .int .u32 p, .string (strOfNums L), .int .i64 n] x fun e w' => e = .returned (.tuple #[.int .u64 0, .string ByteArray.empty, .int .i64 11]) ∧ Below x.heap.size x w')) :
    Calls Tryd.prog 4 #[.agg (u8s K), .int .u32 p, .slice a len cap, .int .u8 tail, .int .i64 n] w fun e w' => e = .returned (.bool true) ∧ Below w.heap.size w w' := by
  have HA : Box (∀ x, Below w.heap.size w x → Calls Tryd.prog 8 #[] x fun e w' => e = .returned (.bool true) ∧ Below x.heap.size x w') := ⟨fun x hx => awake_any x (hT.below hx)⟩
  obtain ⟨S, hS⟩ : ∃ S, w.heap.size = S := ⟨_, rfl⟩
  have HS : Hid (w.heap.size = S) := hS
  have H0 : Box ((w.alloc (.cells (u8s K) 23)).heap[S]? = some (.cells (u8s K) 23 (0, 0)) ∧ Below w.heap.size w (w.alloc (.cells (u8s K) 23))) := ⟨al_at hS, (Below.refl _ _).alloc (Nat.le_refl _) _⟩
  have d1 : ¬ 300 < (len : Int) := by omega
  have HB : Box (∀ x, Below w.heap.size w x → Bytes x a len (L.take len)) := ⟨fun x hx => hB.below hx⟩
  have HLb : Box (Byt L ∧ L.length = l) := ⟨hLb, hLl⟩
  have HE : Box ((l = 192 ∧ len ≤ 192 ∧ (len : Int) % 2 = 0 ∧ ∀ i, len ≤ i → i < 192 → L.getD i 0 = tail) ∨ (l = len ∧ (¬ len < 192 ∨ (len : Int) % 2 = 1))) := ⟨hE⟩
  clear hS hT hB hLb hLl hE
  go_enter Tryd.func4, Tryd.ntmps4
  go_upto_region 1 with fail
  rw [HS.out]
  generalize w.alloc (.cells (u8s K) 23) = x0 at H0 ⊢
  go_wp2_with (first
    | (refine wpList_app rfl (.tmp 27) (.tmp 28) rfl w1.heap.size 0 len cap _ [] (L.take len) a w1 rfl rfl (World.ownsRow_nil _ _ _ _) (HB.out w1 H1.out.2) (by omega) (Below.refl _ _) (Nat.le_refl _) ?_; intro v2 w2 H2')
    | (go_at_call 8; refine Calls.mono (HA.out x0 H0.out.2) ?_; rintro e w1 ⟨rfl, hb⟩; have H1 : Box (w1.heap[S]? = some (.cells (u8s K) 23 (0, 0)) ∧ Below w.heap.size w w1) := ⟨row_on H0.out.1 hb, below_to H0.out.2 hb⟩; clear hb))
  have H2 : Box (w2.ownsRow w1.heap.size 5 1 v2 len ((L.take len).map (Value.int .u8)) ∧ Below w1.heap.size w1 w2 ∧ w1.heap.size ≤ w2.heap.size) := ⟨by
    have := H2'.out.1
    rwa [Nat.zero_add, List.nil_append] at this, H2'.out.2⟩
  clear H2' HA H0 HB
  go_loopw [12] (fun r wr => ∃ k : Nat, len ≤ k ∧ k ≤ l ∧ Box (wr.ownsRow w1.heap.size 5 1 r k ((L.take k).map (Value.int .u8)) ∧ Below w1.heap.size w1 wr ∧ w1.heap.size ≤ wr.heap.size)) (fun r _ => 192 - lenV r)
  case atStart => exact ⟨len, Nat.le_refl _, by rcases HE.out with h | h <;> omega, H2⟩
  case round =>
    clear H2
    obtain ⟨k, hk1, hk2, HO⟩ := hrel
    obtain ⟨ar, car, hr⟩ := own_form HO.out.1
    subst hr
    by_cases hlt : k < l
    · have hh : l = 192 ∧ (len : Int) % 2 = 0 ∧ L.getD k 0 = tail := by
        rcases HE.out with h | h
        · exact ⟨h.1, h.2.2.1, h.2.2.2 k hk1 (by omega)⟩
        · omega
      obtain ⟨hl, hp1, htl⟩ := hh
      have hk192 : k < 192 := by omega
      have hp2 : Int.tmod (len : Int) 2 = 0 := by rw [Int.tmod_eq_emod_of_nonneg (by omega)]; exact hp1
      have Hl : Box (l = 192) := ⟨hl⟩
      have Hlt : Box (k < l ∧ L.getD k 0 = tail) := ⟨hlt, htl⟩
      clear hl hlt hk2 htl
      go_wp2_with (refine wpList_app rfl (.tmp 39) (.tmp 41) rfl w1.heap.size k 1 1 _ (L.take k) [tail] (some ⟨wr.heap.size, 0, none⟩) w1 rfl rfl (HO.out.1.alloc _) (bytes_of_row (X := [tail]) (t := 5) (fr := (0, 0)) (byt_cons _ _ htb byt_nil) (al_at rfl)) (by omega) (HO.out.2.1.alloc HO.out.2.2 _) (by simp; have := HO.out.2.2; omega) ?_; intro v3 w3 H3)
      have H4 : Box (w3.ownsRow w1.heap.size 5 1 v3 (k + 1) ((L.take (k + 1)).map (Value.int .u8)) ∧ Below w1.heap.size w1 w3 ∧ w1.heap.size ≤ w3.heap.size) := ⟨by
        have := H3.out.1
        rwa [← Hlt.out.2, take_snoc L k (by rw [HLb.out.2]; exact Hlt.out.1)] at this, H3.out.2⟩
      clear H3 HO
      go_roundw
      case rel => exact ⟨k + 1, by omega, by have := Hlt.out.1; omega, H4⟩
      case measure =>
        obtain ⟨a9, c9, rfl⟩ := own_form H4.out.1
        simp [lenV]; omega
    · have hkl : k = l := by omega
      have HBy : Box (w.heap.size ≤ w1.heap.size ∧ wr.heap[S]? = some (.cells (u8s K) 23 (0, 0)) ∧ Below w.heap.size w wr ∧ Bytes wr ar k L ∧ k ≤ car) := ⟨H1.out.2.size, by
        rw [HO.out.2.1.block S (Array.getElem?_eq_some_iff.1 H1.out.1).1]; exact H1.out.1, H1.out.2.trans (HO.out.2.1.mono H1.out.2.size), by
        have h := own_bytes HO.out.1 (byt_take L k HLb.out.1)
        rwa [List.take_of_length_le (by rw [HLb.out.2, hkl]; exact Nat.le_refl _)] at h, (own_cap HO.out.1).1⟩
      have HE2 : Box (k = l ∧ (¬ k < 192 ∨ (k < 192 ∧ (len : Int) % 2 = 1))) := ⟨hkl, by rcases HE.out with h | h <;> omega⟩
      rw [← HE2.out.1] at C1
      clear hkl hlt hk1 hk2 HO HE HLb H1 d1 hl3
      by_cases h192 : k < 192
      · have hp1 : (len : Int) % 2 = 1 := by rcases HE2.out.2 with h | h <;> omega
        have hp2 : Int.tmod (len : Int) 2 = 1 := by rw [Int.tmod_eq_emod_of_nonneg (by omega)]; exact hp1
        go_wp2_with (first
          | (go_at_call 13; refine Calls.mono (C2.out w3 H3.out.2.1) ?_; rintro e w4 ⟨rfl, hb⟩; have H4 : Box (Below w.heap.size w w4) := ⟨below_to H3.out.2.1 hb⟩; have hcz := conv_zero w4 none 0; clear hb)
          | (refine wpList_seeKey S K hKl H3.out.1 rfl (.tmp 5) rfl rfl ?_)
          | (go_at_call 12; refine Calls.mono (C1.out wr ar car HBy.out.2.2.1 HBy.out.2.2.2.1 HBy.out.2.2.2.2) ?_; rintro e w3 ⟨rfl, hb⟩; have H3 : Box (w3.heap[S]? = some (.cells (u8s K) 23 (0, 0)) ∧ Below w.heap.size w w3 ∧ Bytes w3 ar k L) := ⟨row_on HBy.out.2.1 hb, below_to HBy.out.2.2.1 hb, HBy.out.2.2.2.1.below hb⟩; have cv3 := conv_bytes (HBy.out.2.2.2.1.below hb) car; clear hb)
          | (refine wpList_seeKey S K hKl HBy.out.2.1 rfl (.tmp 5) rfl rfl ?_))
        go_ret
        exact ⟨rfl, H4.out⟩
      · go_wp2_with (first
          | (go_at_call 13; refine Calls.mono (C2.out w3 H3.out.2.1) ?_; rintro e w4 ⟨rfl, hb⟩; have H4 : Box (Below w.heap.size w w4) := ⟨below_to H3.out.2.1 hb⟩; have hcz := conv_zero w4 none 0; clear hb)
          | (refine wpList_seeKey S K hKl H3.out.1 rfl (.tmp 5) rfl rfl ?_)
          | (go_at_call 12; refine Calls.mono (C1.out wr ar car HBy.out.2.2.1 HBy.out.2.2.2.1 HBy.out.2.2.2.2) ?_; rintro e w3 ⟨rfl, hb⟩; have H3 : Box (w3.heap[S]? = some (.cells (u8s K) 23 (0, 0)) ∧ Below w.heap.size w w3 ∧ Bytes w3 ar k L) := ⟨row_on HBy.out.2.1 hb, below_to HBy.out.2.2.1 hb, HBy.out.2.2.2.1.below hb⟩; have cv3 := conv_bytes (HBy.out.2.2.2.1.below hb) car; clear hb)
          | (refine wpList_seeKey S K hKl HBy.out.2.1 rfl (.tmp 5) rfl rfl ?_))
        go_ret
        exact ⟨rfl, H4.out⟩

set_option maxRecDepth 20000 in
set_option maxHeartbeats 1000000 in
theorem opens_ok (K L D : List Int) (p tail v : Int) (n : Nat) (a : Option Addr) (len cap l : Nat) (w : World) (hT : Tab w) (hKl : K.length = 32) (hB : Bytes w a len (L.take len)) (hl3 : len ≤ 300) (hLb : Byt L) (hLl : L.length = l) (htb : 0 ≤ tail ∧ tail ≤ 255)
    (hE : (l = 192 ∧ len ≤ 192 ∧ (len : Int) % 2 = 0 ∧ ∀ i, len ≤ i → i < 192 → L.getD i 0 = tail) ∨ (l = len ∧ (¬ len < 192 ∨ (len : Int) % 2 = 1))) (hl : l = 192)
    (C1 : Box (∀ x b c, Below w.heap.size w x → Bytes x b 192 L → 192 ≤ c → Calls Tryd.prog 12 #[.agg (u8s K), .int .u32 p, .slice b 192 c, .int .i64 (n : Int)] x fun e w' => ∃ a', e = .returned (.tuple #[.int .u64 v, .slice a' n n, .int .i64 0]) ∧ Bytes w' a' n D ∧ Below x.heap.size x w'))
    (C2 : Box (∀ x, Below w.heap.size w x → Calls Tryd.prog 13 #[.agg (u8s K), .int .u32 p, .string (strOfNums L), .int .i64 (n : Int)] x fun e w' => e = .returned (.tuple #[.int .u64 v, .string (strOfNums D), .int .i64 0]) ∧ Below x.heap.size x w'))
    (C3 : Box (∀ x b, Below w.heap.size w x → Bytes x b n D → Calls Tryd.prog 10 #[.agg (u8s K), .int .u32 p, .int .u64 v, .slice b n n] x fun e w' => ∃ g, e = .returned (.tuple #[.slice (some ⟨g, 0, none⟩) 192 192, .int .i64 0]) ∧ Bytes w' (some ⟨g, 0, none⟩) 192 L ∧ Below x.heap.size x w')) :
    Calls Tryd.prog 4 #[.agg (u8s K), .int .u32 p, .slice a len cap, .int .u8 tail, .int .i64 (n : Int)] w fun e w' => e = .returned (.bool true) ∧ Below w.heap.size w w' := by
  have HL192 : Box (l = 192) := ⟨hl⟩
  clear hl
  have HA : Box (∀ x, Below w.heap.size w x → Calls Tryd.prog 8 #[] x fun e w' => e = .returned (.bool true) ∧ Below x.heap.size x w') := ⟨fun x hx => awake_any x (hT.below hx)⟩
  obtain ⟨S, hS⟩ : ∃ S, w.heap.size = S := ⟨_, rfl⟩
  have HS : Hid (w.heap.size = S) := hS
  have H0 : Box ((w.alloc (.cells (u8s K) 23)).heap[S]? = some (.cells (u8s K) 23 (0, 0)) ∧ Below w.heap.size w (w.alloc (.cells (u8s K) 23))) := ⟨al_at hS, (Below.refl _ _).alloc (Nat.le_refl _) _⟩
  have d1 : ¬ 300 < (len : Int) := by omega
  have HB : Box (∀ x, Below w.heap.size w x → Bytes x a len (L.take len)) := ⟨fun x hx => hB.below hx⟩
  have HLb : Box (Byt L ∧ L.length = l) := ⟨hLb, hLl⟩
  have HE : Box ((l = 192 ∧ len ≤ 192 ∧ (len : Int) % 2 = 0 ∧ ∀ i, len ≤ i → i < 192 → L.getD i 0 = tail) ∨ (l = len ∧ (¬ len < 192 ∨ (len : Int) % 2 = 1))) := ⟨hE⟩
  clear hS hT hB hLb hLl hE
  go_enter Tryd.func4, Tryd.ntmps4
  go_upto_region 1 with fail
  rw [HS.out]
  generalize w.alloc (.cells (u8s K) 23) = x0 at H0 ⊢
  go_wp2_with (first
    | (refine wpList_app rfl (.tmp 27) (.tmp 28) rfl w1.heap.size 0 len cap _ [] (L.take len) a w1 rfl rfl (World.ownsRow_nil _ _ _ _) (HB.out w1 H1.out.2) (by omega) (Below.refl _ _) (Nat.le_refl _) ?_; intro v2 w2 H2')
    | (go_at_call 8; refine Calls.mono (HA.out x0 H0.out.2) ?_; rintro e w1 ⟨rfl, hb⟩; have H1 : Box (w1.heap[S]? = some (.cells (u8s K) 23 (0, 0)) ∧ Below w.heap.size w w1) := ⟨row_on H0.out.1 hb, below_to H0.out.2 hb⟩; clear hb))
  have H2 : Box (w2.ownsRow w1.heap.size 5 1 v2 len ((L.take len).map (Value.int .u8)) ∧ Below w1.heap.size w1 w2 ∧ w1.heap.size ≤ w2.heap.size) := ⟨by
    have := H2'.out.1
    rwa [Nat.zero_add, List.nil_append] at this, H2'.out.2⟩
  clear H2' HA H0 HB
  go_loopw [12] (fun r wr => ∃ k : Nat, len ≤ k ∧ k ≤ l ∧ Box (wr.ownsRow w1.heap.size 5 1 r k ((L.take k).map (Value.int .u8)) ∧ Below w1.heap.size w1 wr ∧ w1.heap.size ≤ wr.heap.size)) (fun r _ => 192 - lenV r)
  case atStart => exact ⟨len, Nat.le_refl _, by rcases HE.out with h | h <;> omega, H2⟩
  case round =>
    clear H2
    obtain ⟨k, hk1, hk2, HO⟩ := hrel
    obtain ⟨ar, car, hr⟩ := own_form HO.out.1
    subst hr
    by_cases hlt : k < l
    · have hh : l = 192 ∧ (len : Int) % 2 = 0 ∧ L.getD k 0 = tail := by
        rcases HE.out with h | h
        · exact ⟨h.1, h.2.2.1, h.2.2.2 k hk1 (by omega)⟩
        · omega
      obtain ⟨hl, hp1, htl⟩ := hh
      have hk192 : k < 192 := by omega
      have hp2 : Int.tmod (len : Int) 2 = 0 := by rw [Int.tmod_eq_emod_of_nonneg (by omega)]; exact hp1
      have Hl : Box (l = 192) := ⟨hl⟩
      have Hlt : Box (k < l ∧ L.getD k 0 = tail) := ⟨hlt, htl⟩
      clear hl hlt hk2 htl
      go_wp2_with (refine wpList_app rfl (.tmp 39) (.tmp 41) rfl w1.heap.size k 1 1 _ (L.take k) [tail] (some ⟨wr.heap.size, 0, none⟩) w1 rfl rfl (HO.out.1.alloc _) (bytes_of_row (X := [tail]) (t := 5) (fr := (0, 0)) (byt_cons _ _ htb byt_nil) (al_at rfl)) (by omega) (HO.out.2.1.alloc HO.out.2.2 _) (by simp; have := HO.out.2.2; omega) ?_; intro v3 w3 H3)
      have H4 : Box (w3.ownsRow w1.heap.size 5 1 v3 (k + 1) ((L.take (k + 1)).map (Value.int .u8)) ∧ Below w1.heap.size w1 w3 ∧ w1.heap.size ≤ w3.heap.size) := ⟨by
        have := H3.out.1
        rwa [← Hlt.out.2, take_snoc L k (by rw [HLb.out.2]; exact Hlt.out.1)] at this, H3.out.2⟩
      clear H3 HO
      go_roundw
      case rel => exact ⟨k + 1, by omega, by have := Hlt.out.1; omega, H4⟩
      case measure =>
        obtain ⟨a9, c9, rfl⟩ := own_form H4.out.1
        simp [lenV]; omega
    · have hkl : k = l := by omega
      have HBy : Box (w.heap.size ≤ w1.heap.size ∧ wr.heap[S]? = some (.cells (u8s K) 23 (0, 0)) ∧ Below w.heap.size w wr ∧ Bytes wr ar k L ∧ k ≤ car) := ⟨H1.out.2.size, by
        rw [HO.out.2.1.block S (Array.getElem?_eq_some_iff.1 H1.out.1).1]; exact H1.out.1, H1.out.2.trans (HO.out.2.1.mono H1.out.2.size), by
        have h := own_bytes HO.out.1 (byt_take L k HLb.out.1)
        rwa [List.take_of_length_le (by rw [HLb.out.2, hkl]; exact Nat.le_refl _)] at h, (own_cap HO.out.1).1⟩
      obtain rfl : k = 192 := by have := HL192.out; omega
      clear hkl hlt hk1 hk2 HO HE HLb H1 d1 hl3 HL192
      go_wp2_with (first
        | (go_at_call 10; refine Calls.mono (C3.out w4 a3 H4.out.2.1 H4.out.2.2.2) ?_; rintro e w5 ⟨g5, rfl, hB5, hb⟩; have H5 : Box (Below w.heap.size w w5) := ⟨below_to H4.out.2.1 hb⟩; have cv5 := conv_bytes hB5 192; have cv6 := conv_bytes (H4.out.2.2.1.below hb) car; clear hb hB5)
        | (refine wpList_seeKey S K hKl H4.out.1 rfl (.tmp 5) rfl rfl ?_)
        | (go_at_call 13; refine Calls.mono (C2.out w3 H3.out.2.1) ?_; rintro e w4 ⟨rfl, hb⟩; have H4 : Box (w4.heap[S]? = some (.cells (u8s K) 23 (0, 0)) ∧ Below w.heap.size w w4 ∧ Bytes w4 ar 192 L ∧ Bytes w4 a3 n D) := ⟨row_on H3.out.1 hb, below_to H3.out.2.1 hb, H3.out.2.2.1.below hb, H3.out.2.2.2.below hb⟩; have cv4 := conv_bytes (H3.out.2.2.2.below hb) n; clear hb)
        | (refine wpList_seeKey S K hKl H3.out.1 rfl (.tmp 5) rfl rfl ?_)
        | (go_at_call 12; refine Calls.mono (C1.out wr ar car HBy.out.2.2.1 HBy.out.2.2.2.1 HBy.out.2.2.2.2) ?_; rintro e w3 ⟨a3, rfl, hB3, hb⟩; have H3 : Box (w3.heap[S]? = some (.cells (u8s K) 23 (0, 0)) ∧ Below w.heap.size w w3 ∧ Bytes w3 ar 192 L ∧ Bytes w3 a3 n D) := ⟨row_on HBy.out.2.1 hb, below_to HBy.out.2.2.1 hb, HBy.out.2.2.2.1.below hb, hB3⟩; have cv3 := conv_bytes (HBy.out.2.2.2.1.below hb) car; clear hb hB3)
        | (refine wpList_seeKey S K hKl HBy.out.2.1 rfl (.tmp 5) rfl rfl ?_))
      go_ret
      exact ⟨rfl, H5.out⟩

set_option maxRecDepth 20000 in
set_option maxHeartbeats 1000000 in
theorem opens_long (K : List Int) (p tail n : Int) (a : Option Addr) (len cap : Nat) (w : World) (hT : Tab w) (hm : len ≤ maxLen) (hl : 300 < (len : Int)) :
    Calls Tryd.prog 4 #[.agg (u8s K), .int .u32 p, .slice a len cap, .int .u8 tail, .int .i64 n] w fun e w' => e = .returned (.bool true) ∧ Below w.heap.size w w' := by
  unfold maxLen at hm
  have H0 : Box (Below w.heap.size w (w.alloc (.cells (u8s K) 23))) := ⟨(Below.refl _ _).alloc (Nat.le_refl _) _⟩
  have HA : Box (∀ x, Below w.heap.size w x → Calls Tryd.prog 8 #[] x fun e w' => e = .returned (.bool true) ∧ Below x.heap.size x w') := ⟨fun x hx => awake_any x (hT.below hx)⟩
  clear hT
  go_enter Tryd.func4, Tryd.ntmps4
  go_upto_region 1 with fail
  generalize w.alloc (.cells (u8s K) 23) = x0 at H0 ⊢
  go_wp2_with (go_at_call 8; refine (HA.out x0 H0.out).mono ?_; rintro e w1 ⟨rfl, hb1⟩; have H1 : Box (Below w.heap.size w w1) := ⟨below_to H0.out hb1⟩; clear hb1)
  go_ret
  exact ⟨rfl, H1.out⟩

/-- What the law opens: the bytes that came in, filled up by one value to 192 where their number is even. -/
def lay (B : List Int) (tail : Int) : List Int := if B.length < 192 ∧ (B.length : Int) % 2 = 0 then B ++ List.replicate (192 - B.length) tail else B
theorem sealOpens_walk (K : List Int) (p : Int) (a : Option Addr) (len cap : Nat) (zs : List Int) (tail n : Int) (W : World) (hT : Tab W) (hKl : K.length = 32) (hKb : Byt K) (w1 : (Lit.int .u32 p).wf = true) (hR : IsRow .u8 W a len cap zs) (w3 : (Lit.int .u8 tail).wf = true) (w4 : (Lit.int .i64 n).wf = true) :
    Calls Tryd.prog 4 #[.agg (u8s K), .int .u32 p, .slice a len cap, .int .u8 tail, .int .i64 n] W fun e w' => e = .returned (.bool true) ∧ Below W.heap.size W w' := by
  have b1 := bounds_u32 w1
  have b3 := bounds_u8 w3
  have hp : W32 p := ⟨by omega, by omega⟩
  have htb : 0 ≤ tail ∧ tail ≤ 255 := ⟨by omega, by omega⟩
  by_cases hl3 : len ≤ 300
  · have hB0 := hR.bytes
    obtain ⟨L, hL⟩ : ∃ L, lay (zs.take len) tail = L := ⟨_, rfl⟩
    obtain ⟨l, hl⟩ : ∃ l, L.length = l := ⟨_, rfl⟩
    have hx : Byt L ∧ L.take len = zs.take len ∧ ((l = 192 ∧ len ≤ 192 ∧ (len : Int) % 2 = 0 ∧ ∀ i, len ≤ i → i < 192 → L.getD i 0 = tail) ∨ (l = len ∧ (¬ len < 192 ∨ (len : Int) % 2 = 1))) := by
      have h1 := hB0.1
      have h2 := hB0.2.1
      generalize zs.take len = B at hL h1 h2
      unfold lay at hL
      rw [h1] at hL
      by_cases hc : len < 192 ∧ (len : Int) % 2 = 0
      · rw [if_pos hc] at hL
        subst hL
        refine ⟨byt_app _ _ h2 (fun i => ?_), by rw [List.take_append_of_le_length (by omega), List.take_of_length_le (by omega)], .inl ⟨by rw [← hl, List.length_append, List.length_replicate]; omega, by omega, hc.2, fun i hi1 hi2 => ?_⟩⟩
        · simp only [List.getD, List.getElem?_replicate]
          split
          · exact htb
          · simp
        · rw [getD_app, if_neg (by omega)]
          simp [List.getD, h1, show i - len < 192 - len by omega]
      · rw [if_neg hc] at hL
        subst hL
        exact ⟨h2, List.take_of_length_le (by omega), .inr ⟨by omega, by omega⟩⟩
    obtain ⟨hLb, htk, hE⟩ := hx
    have hB : Bytes W a len (L.take len) := by rw [htk]; exact hB0
    clear hL htk
    by_cases hn : n = 160 ∨ n = 176
    · have hn' : ∃ m : Nat, n = (m : Int) ∧ (m = 160 ∨ m = 176) := by
        rcases hn with h | h
        · exact ⟨160, h, .inl rfl⟩
        · exact ⟨176, h, .inr rfl⟩
      obtain ⟨m, rfl, hm⟩ := hn'
      by_cases hl2 : l = 192
      · by_cases hf : Fit L m
        · refine opens_ok K L (op K p L m) p tail (num L 0 8) m a len cap l W hT hKl hB hl3 hLb hl htb hE hl2 ⟨fun x b c hx hb hc => open_ok K L p m b c x (hT.below hx) hKl hKb hp hm hb hc hf⟩ ⟨fun x hx => ropen_ok K L p m hKl hKb hp hLb (hl.trans hl2) hm hf x⟩ ⟨fun x b hx hb => ?_⟩
          have h := seal_ok K (op K p L m) p (num L 0 8) b m m x (hT.below hx) hKl hKb hp hf.1 hf.2.1 (num8 L hLb) hb hm
          rw [sl_op K p L m (hl.trans hl2) hLb (by omega) hf] at h
          exact h.mono fun e w' ⟨g, he, ho⟩ => ⟨g, he, ho.bytes hLb, ho.2.2⟩
        · exact opens_no_11 K L p tail _ a len cap l W hT hKl hB hl3 hLb hl htb hE ⟨fun x b c hx hb hc => by rw [hl2] at hb hc ⊢; exact open_form K L p m b c x hm hb hc hf⟩ ⟨fun x hx => ropen_form K L p m hLb (hl.trans hl2) hm hf x⟩
      · exact opens_no_11 K L p tail _ a len cap l W hT hKl hB hl3 hLb hl htb hE ⟨fun x b c hx hb hc => open_len K p _ b l c x hn hl2⟩ ⟨fun x hx => ropen_len K p _ _ hn (by rw [str_size, hl]; exact hl2) x⟩
    · exact opens_no_1 K L p tail n a len cap l W hT hKl hB hl3 hLb hl htb hE ⟨fun x b c hx hb hc => open_arg K p n b l c x (by omega) (by omega)⟩ ⟨fun x hx => ropen_arg K p _ n (by omega) (by omega) x⟩
  · exact opens_long K p tail n a len cap W hT hR.len (by omega)
end Go.Proofs.YtgfpbbikdmnnhaaDoor
