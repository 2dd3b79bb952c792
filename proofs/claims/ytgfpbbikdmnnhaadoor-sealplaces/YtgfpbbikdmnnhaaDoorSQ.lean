/-
  The walk of SealPlaces: what was sealed for one place, by one key, is opened at another one, or by another one, as the reference says: the law returns true, in every memory that holds the package's table.
-/
import Derived.Test.YtgfpbbikdmnnhaaDoorS5
import Derived.Test.YtgfpbbikdmnnhaaDoorS7
import Derived.Test.YtgfpbbikdmnnhaaDoorFS
namespace Go.Proofs.YtgfpbbikdmnnhaaDoor
set_option linter.unusedVariables false
open Go.RowKit Plain

/-- Two keys in blocks S and S + 1, all else as it was. -/
def Kt (w x : World) (S : Nat) (K K2 : List Int) : Prop := x.heap[S]? = some (.cells (u8s K) 23 (0, 0)) ∧ x.heap[S + 1]? = some (.cells (u8s K2) 23 (0, 0)) ∧ Below w.heap.size w x
theorem Kt.on {w x y : World} {S : Nat} {K K2 : List Int} (h : Kt w x S K K2) (hb : Below x.heap.size x y) : Kt w y S K K2 := ⟨row_on h.1 hb, row_on h.2.1 hb, below_to h.2.2 hb⟩

set_option maxRecDepth 20000 in
set_option maxHeartbeats 1000000 in
theorem places_no_1 (K K2 P : List Int) (p v p2 : Int) (a : Option Addr) (len cap : Nat) (w : World) (hT : Tab w) (hKl : K.length = 32)
    (C0 : Box (∀ x, Below w.heap.size w x → Calls Tryd.prog 9 #[.slice a len cap, .int .u8 0] x fun e w' => ∃ g, e = .returned (.slice (some ⟨g, 0, none⟩) 160 160) ∧ Bytes w' (some ⟨g, 0, none⟩) 160 P ∧ Below x.heap.size x w'))
    (C1 : Box (∀ x b, Calls Tryd.prog 10 #[.agg (u8s K), .int .u32 p, .int .u64 v, .slice b 160 160] x fun e w' => e = .returned (.tuple #[.slice none 0 0, .int .i64 1]) ∧ Below x.heap.size x w')) :
    Calls Tryd.prog 6 #[.agg (u8s K), .int .u32 p, .int .u64 v, .slice a len cap, .agg (u8s K2), .int .u32 p2] w fun e w' => e = .returned (.bool true) ∧ Below w.heap.size w w' := by
  have HA : Box (∀ x, Below w.heap.size w x → Calls Tryd.prog 8 #[] x fun e w' => e = .returned (.bool true) ∧ Below x.heap.size x w') := ⟨fun x hx => awake_any x (hT.below hx)⟩
  obtain ⟨S, hS⟩ : ∃ S, w.heap.size = S := ⟨_, rfl⟩
  have HS : Hid (w.heap.size = S) := hS
  have H0 : Box (Kt w ((w.alloc (.cells (u8s K) 23)).alloc (.cells (u8s K2) 23)) S K K2) := ⟨al_old (al_at hS), al_at (by simp [hS]), ((Below.refl _ _).alloc (Nat.le_refl _) _).alloc (by simp) _⟩
  clear hS hT
  go_enter Tryd.func6, Tryd.ntmps6
  go_upto_region 1 with fail
  rw [HS.out]
  generalize (w.alloc (.cells (u8s K) 23)).alloc (.cells (u8s K2) 23) = x0 at H0 ⊢
  go_wp2_with (first
    | (go_at_call 10; refine Calls.mono (C1.out w2 (some ⟨g2, 0, none⟩)) ?_; rintro e w3 ⟨rfl, hb⟩; have H3 : Box (Below w.heap.size w w3) := ⟨below_to H2.out.1.2.2 hb⟩; clear hb)
    | (refine wpList_seeKey S K hKl H2.out.1.1 rfl (.tmp 6) rfl rfl ?_)
    | (go_at_call 9; refine Calls.mono (C0.out w1 H1.out.2.2) ?_; rintro e w2 ⟨g2, rfl, hB, hb⟩; have H2 : Box (Kt w w2 S K K2 ∧ Bytes w2 (some ⟨g2, 0, none⟩) 160 P) := ⟨H1.out.on hb, hB⟩; clear hB hb)
    | (go_at_call 8; refine Calls.mono (HA.out x0 H0.out.2.2) ?_; rintro e w1 ⟨rfl, hb⟩; have H1 : Box (Kt w w1 S K K2) := ⟨H0.out.on hb⟩; clear hb))
  go_ret
  exact ⟨rfl, H3.out⟩

set_option maxRecDepth 20000 in
set_option maxHeartbeats 1000000 in
theorem places_no_15 (K K2 P : List Int) (p v p2 : Int) (a : Option Addr) (len cap : Nat) (w : World) (hT : Tab w) (hKl : K.length = 32)
    (C0 : Box (∀ x, Below w.heap.size w x → Calls Tryd.prog 9 #[.slice a len cap, .int .u8 0] x fun e w' => ∃ g, e = .returned (.slice (some ⟨g, 0, none⟩) 160 160) ∧ Bytes w' (some ⟨g, 0, none⟩) 160 P ∧ Below x.heap.size x w'))
    (C1 : Box (∀ x b, Calls Tryd.prog 10 #[.agg (u8s K), .int .u32 p, .int .u64 v, .slice b 160 160] x fun e w' => e = .returned (.tuple #[.slice none 0 0, .int .i64 15]) ∧ Below x.heap.size x w')) :
    Calls Tryd.prog 6 #[.agg (u8s K), .int .u32 p, .int .u64 v, .slice a len cap, .agg (u8s K2), .int .u32 p2] w fun e w' => e = .returned (.bool true) ∧ Below w.heap.size w w' := by
  have HA : Box (∀ x, Below w.heap.size w x → Calls Tryd.prog 8 #[] x fun e w' => e = .returned (.bool true) ∧ Below x.heap.size x w') := ⟨fun x hx => awake_any x (hT.below hx)⟩
  obtain ⟨S, hS⟩ : ∃ S, w.heap.size = S := ⟨_, rfl⟩
  have HS : Hid (w.heap.size = S) := hS
  have H0 : Box (Kt w ((w.alloc (.cells (u8s K) 23)).alloc (.cells (u8s K2) 23)) S K K2) := ⟨al_old (al_at hS), al_at (by simp [hS]), ((Below.refl _ _).alloc (Nat.le_refl _) _).alloc (by simp) _⟩
  clear hS hT
  go_enter Tryd.func6, Tryd.ntmps6
  go_upto_region 1 with fail
  rw [HS.out]
  generalize (w.alloc (.cells (u8s K) 23)).alloc (.cells (u8s K2) 23) = x0 at H0 ⊢
  go_wp2_with (first
    | (go_at_call 10; refine Calls.mono (C1.out w2 (some ⟨g2, 0, none⟩)) ?_; rintro e w3 ⟨rfl, hb⟩; have H3 : Box (Below w.heap.size w w3) := ⟨below_to H2.out.1.2.2 hb⟩; clear hb)
    | (refine wpList_seeKey S K hKl H2.out.1.1 rfl (.tmp 6) rfl rfl ?_)
    | (go_at_call 9; refine Calls.mono (C0.out w1 H1.out.2.2) ?_; rintro e w2 ⟨g2, rfl, hB, hb⟩; have H2 : Box (Kt w w2 S K K2 ∧ Bytes w2 (some ⟨g2, 0, none⟩) 160 P) := ⟨H1.out.on hb, hB⟩; clear hB hb)
    | (go_at_call 8; refine Calls.mono (HA.out x0 H0.out.2.2) ?_; rintro e w1 ⟨rfl, hb⟩; have H1 : Box (Kt w w1 S K K2) := ⟨H0.out.on hb⟩; clear hb))
  go_ret
  exact ⟨rfl, H3.out⟩

set_option maxRecDepth 20000 in
set_option maxHeartbeats 1000000 in
theorem places_ok (K K2 P Z D : List Int) (p v p2 : Int) (a : Option Addr) (len cap : Nat) (w : World) (hT : Tab w) (hKl : K.length = 32) (hK2l : K2.length = 32)
    (C0 : Box (∀ x, Below w.heap.size w x → Calls Tryd.prog 9 #[.slice a len cap, .int .u8 0] x fun e w' => ∃ g, e = .returned (.slice (some ⟨g, 0, none⟩) 160 160) ∧ Bytes w' (some ⟨g, 0, none⟩) 160 P ∧ Below x.heap.size x w'))
    (C1 : Box (∀ x b, Below w.heap.size w x → Bytes x b 160 P → Calls Tryd.prog 10 #[.agg (u8s K), .int .u32 p, .int .u64 v, .slice b 160 160] x fun e w' => ∃ g, e = .returned (.tuple #[.slice (some ⟨g, 0, none⟩) 192 192, .int .i64 0]) ∧ Bytes w' (some ⟨g, 0, none⟩) 192 Z ∧ Below x.heap.size x w'))
    (C2 : Box (∀ x b, Below w.heap.size w x → Bytes x b 192 Z → Calls Tryd.prog 12 #[.agg (u8s K2), .int .u32 p2, .slice b 192 192, .int .i64 160] x fun e w' => ∃ a', e = .returned (.tuple #[.int .u64 v, .slice a' 160 160, .int .i64 0]) ∧ Bytes w' a' 160 D ∧ Below x.heap.size x w'))
    (C3 : Box (∀ x, Calls Tryd.prog 13 #[.agg (u8s K2), .int .u32 p2, .string (strOfNums Z), .int .i64 160] x fun e w' => e = .returned (.tuple #[.int .u64 v, .string (strOfNums D), .int .i64 0]) ∧ Below x.heap.size x w')) :
    Calls Tryd.prog 6 #[.agg (u8s K), .int .u32 p, .int .u64 v, .slice a len cap, .agg (u8s K2), .int .u32 p2] w fun e w' => e = .returned (.bool true) ∧ Below w.heap.size w w' := by
  have HA : Box (∀ x, Below w.heap.size w x → Calls Tryd.prog 8 #[] x fun e w' => e = .returned (.bool true) ∧ Below x.heap.size x w') := ⟨fun x hx => awake_any x (hT.below hx)⟩
  obtain ⟨S, hS⟩ : ∃ S, w.heap.size = S := ⟨_, rfl⟩
  have HS : Hid (w.heap.size = S) := hS
  have H0 : Box (Kt w ((w.alloc (.cells (u8s K) 23)).alloc (.cells (u8s K2) 23)) S K K2) := ⟨al_old (al_at hS), al_at (by simp [hS]), ((Below.refl _ _).alloc (Nat.le_refl _) _).alloc (by simp) _⟩
  clear hS hT
  go_enter Tryd.func6, Tryd.ntmps6
  go_upto_region 1 with fail
  rw [HS.out]
  generalize (w.alloc (.cells (u8s K) 23)).alloc (.cells (u8s K2) 23) = x0 at H0 ⊢
  go_wp2_with (first
    | (go_at_call 13; refine Calls.mono (C3.out w4) ?_; rintro e w5 ⟨rfl, hb⟩; have H5 : Box (Below w.heap.size w w5) := ⟨below_to H4.out.1.2.2 hb⟩; have cv5 := conv_bytes (H4.out.2.2.below hb) 160; clear hb)
    | (refine wpList_seeKey (S + 1) K2 hK2l H4.out.1.2.1 rfl (.tmp 10) rfl rfl ?_)
    | (go_at_call 12; refine Calls.mono (C2.out w3 (some ⟨g3, 0, none⟩) H3.out.1.2.2 H3.out.2) ?_; rintro e w4 ⟨a4, rfl, hB, hb⟩; have H4 : Box (Kt w w4 S K K2 ∧ Bytes w4 (some ⟨g3, 0, none⟩) 192 Z ∧ Bytes w4 a4 160 D) := ⟨H3.out.1.on hb, H3.out.2.below hb, hB⟩; have cv4 := conv_bytes (H3.out.2.below hb) 192; clear hb hB)
    | (refine wpList_seeKey (S + 1) K2 hK2l H3.out.1.2.1 rfl (.tmp 10) rfl rfl ?_)
    | (go_at_call 10; refine Calls.mono (C1.out w2 (some ⟨g2, 0, none⟩) H2.out.1.2.2 H2.out.2) ?_; rintro e w3 ⟨g3, rfl, hB, hb⟩; have H3 : Box (Kt w w3 S K K2 ∧ Bytes w3 (some ⟨g3, 0, none⟩) 192 Z) := ⟨H2.out.1.on hb, hB⟩; clear hb hB)
    | (refine wpList_seeKey S K hKl H2.out.1.1 rfl (.tmp 6) rfl rfl ?_)
    | (go_at_call 9; refine Calls.mono (C0.out w1 H1.out.2.2) ?_; rintro e w2 ⟨g2, rfl, hB, hb⟩; have H2 : Box (Kt w w2 S K K2 ∧ Bytes w2 (some ⟨g2, 0, none⟩) 160 P) := ⟨H1.out.on hb, hB⟩; clear hB hb)
    | (go_at_call 8; refine Calls.mono (HA.out x0 H0.out.2.2) ?_; rintro e w1 ⟨rfl, hb⟩; have H1 : Box (Kt w w1 S K K2) := ⟨H0.out.on hb⟩; clear hb))
  go_ret
  exact ⟨rfl, H5.out⟩

theorem sealPlaces_walk (K : List Int) (p v : Int) (a : Option Addr) (len cap : Nat) (zs : List Int) (K2 : List Int) (p2 : Int) (W : World) (hT : Tab W) (hKl : K.length = 32) (hKb : Byt K) (w1 : (Lit.int .u32 p).wf = true) (w2 : (Lit.int .u64 v).wf = true) (hR : IsRow .u8 W a len cap zs) (hK2l : K2.length = 32) (hK2b : Byt K2) (w5 : (Lit.int .u32 p2).wf = true) :
    Calls Tryd.prog 6 #[.agg (u8s K), .int .u32 p, .int .u64 v, .slice a len cap, .agg (u8s K2), .int .u32 p2] W fun e w' => e = .returned (.bool true) ∧ Below W.heap.size W w' := by
  have b1 := bounds_u32 w1
  have b2 := bounds_u64 w2
  have b5 := bounds_u32 w5
  have hB := hR.bytes
  have hp : W32 p := ⟨by omega, by omega⟩
  have hp2 : W32 p2 := ⟨by omega, by omega⟩
  have hv : 0 ≤ v ∧ v ≤ 18446744073709551615 := ⟨by omega, by omega⟩
  have hPl : (padTo (zs.take len) 160).length = 160 := length_padTo _ _
  have hPb : Byt (padTo (zs.take len) 160) := byt_padTo _ _ hB.2.1
  have C0 : Box (∀ x, Below W.heap.size W x → Calls Tryd.prog 9 #[.slice a len cap, .int .u8 0] x fun e w' => ∃ g, e = .returned (.slice (some ⟨g, 0, none⟩) 160 160) ∧ Bytes w' (some ⟨g, 0, none⟩) 160 (padTo (zs.take len) 160) ∧ Below x.heap.size x w') := ⟨fun x hx => (long_0 a len cap (zs.take len) 0 x (hB.below hx) hR.len (by decide)).mono fun e w' ⟨g, he, ho⟩ => ⟨g, he, ho.bytes hPb, ho.2.2⟩⟩
  generalize padTo (zs.take len) 160 = P at hPl hPb C0
  by_cases h0 : v = 0
  · exact places_no_1 K K2 P p v p2 a len cap W hT hKl C0 ⟨fun x b => seal_arg K p v b 160 160 x (.inr ⟨.inl rfl, h0⟩)⟩
  · by_cases h2 : v = 18446744073709551615
    · subst h2
      exact places_no_15 K K2 P p _ p2 a len cap W hT hKl C0 ⟨fun x b => seal_worn K p b 160 160 x (.inl rfl)⟩
    · have hF := sl_fit K p v P 160 hPl (by omega) hv h0 h2
      have hN := sl_num K p v P 160 hPl (by omega) hv
      refine places_ok K K2 P (sl K p v P) (op K2 p2 (sl K p v P) 160) p v p2 a len cap W hT hKl hK2l C0 ⟨fun x b hx hb => ?_⟩ ⟨fun x b hx hb => ?_⟩ ⟨fun x => ?_⟩
      · exact (seal_ok K P p v b 160 160 x (hT.below hx) hKl hKb hp h0 h2 hv hb (.inl rfl)).mono fun e w' ⟨g, he, ho⟩ => ⟨g, he, ho.bytes (byt_sl _ _ _ _), ho.2.2⟩
      · have h := open_ok K2 (sl K p v P) p2 160 b 192 x (hT.below hx) hK2l hK2b hp2 (.inl rfl) hb (by omega) hF
        rw [hN] at h
        exact h
      · have h := ropen_ok K2 (sl K p v P) p2 160 hK2l hK2b hp2 (byt_sl _ _ _ _) (length_sl _ _ _ _) (.inl rfl) hF x
        rw [hN] at h
        exact h
end Go.Proofs.YtgfpbbikdmnnhaaDoor
