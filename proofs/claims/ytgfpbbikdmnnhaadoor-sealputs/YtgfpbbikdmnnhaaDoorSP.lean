/-
  The walk of SealPuts: what is sealed, of any key, place, version and bytes, is the reference's, or refused; opened it is what it was: the law returns true, in every memory that holds the package's table.
-/
import Derived.Test.YtgfpbbikdmnnhaaDoorS5
import Derived.Test.YtgfpbbikdmnnhaaDoorS6
import Derived.Test.YtgfpbbikdmnnhaaDoorFS
namespace Go.Proofs.YtgfpbbikdmnnhaaDoor
set_option linter.unusedVariables false
open Go.RowKit Plain

set_option maxRecDepth 20000 in
set_option maxHeartbeats 1000000 in
theorem puts_no_1 (K P : List Int) (p v kind : Int) (n : Nat) (a : Option Addr) (len cap : Nat) (w : World) (hT : Tab w) (hKl : K.length = 32)
    (C0 : Box (∀ x, Below w.heap.size w x → Calls Tryd.prog 9 #[.slice a len cap, .int .u8 kind] x fun e w' => ∃ g, e = .returned (.slice (some ⟨g, 0, none⟩) n n) ∧ Bytes w' (some ⟨g, 0, none⟩) n P ∧ Below x.heap.size x w'))
    (C1 : Box (∀ x b, Below w.heap.size w x → Bytes x b n P → Calls Tryd.prog 10 #[.agg (u8s K), .int .u32 p, .int .u64 v, .slice b n n] x fun e w' => e = .returned (.tuple #[.slice none 0 0, .int .i64 1]) ∧ Below x.heap.size x w'))
    (C2 : Box (∀ x, Below w.heap.size w x → Calls Tryd.prog 11 #[.agg (u8s K), .int .u32 p, .int .u64 v, .string (strOfNums P)] x fun e w' => e = .returned (.tuple #[.string ByteArray.empty, .int .i64 1]) ∧ Below x.heap.size x w')) :
    Calls Tryd.prog 3 #[.agg (u8s K), .int .u32 p, .int .u64 v, .slice a len cap, .int .u8 kind] w fun e w' => e = .returned (.bool true) ∧ Below w.heap.size w w' := by
  have HA : Box (∀ x, Below w.heap.size w x → Calls Tryd.prog 8 #[] x fun e w' => e = .returned (.bool true) ∧ Below x.heap.size x w') := ⟨fun x hx => awake_any x (hT.below hx)⟩
  obtain ⟨S, hS⟩ : ∃ S, w.heap.size = S := ⟨_, rfl⟩
  have HS : Hid (w.heap.size = S) := hS
  have H0 : Box ((w.alloc (.cells (u8s K) 23)).heap[S]? = some (.cells (u8s K) 23 (0, 0)) ∧ Below w.heap.size w (w.alloc (.cells (u8s K) 23))) := ⟨al_at hS, (Below.refl _ _).alloc (Nat.le_refl _) _⟩
  have hcz := fun x => conv_zero x none 0
  clear hS hT
  go_enter Tryd.func3, Tryd.ntmps3
  go_upto_region 1 with fail
  rw [HS.out]
  generalize w.alloc (.cells (u8s K) 23) = x0 at H0 ⊢
  go_wp2_with (first
    | (go_at_call 11; refine Calls.mono (C2.out w3 H3.out.2) ?_; rintro e w4 ⟨rfl, hb⟩; have H4 : Box (Below w.heap.size w w4) := ⟨below_to H3.out.2 hb⟩; clear hb)
    | (refine wpList_seeKey S K hKl H3.out.1 rfl (.tmp 5) rfl rfl ?_)
    | (go_at_call 10; refine Calls.mono (C1.out w2 (some ⟨g2, 0, none⟩) H2.out.2.1 H2.out.2.2) ?_; rintro e w3 ⟨rfl, hb⟩; have H3 : Box (w3.heap[S]? = some (.cells (u8s K) 23 (0, 0)) ∧ Below w.heap.size w w3) := ⟨row_on H2.out.1 hb, below_to H2.out.2.1 hb⟩; have cv3 := conv_bytes (H2.out.2.2.below hb) n; clear hb)
    | (refine wpList_seeKey S K hKl H2.out.1 rfl (.tmp 5) rfl rfl ?_)
    | (go_at_call 9; refine Calls.mono (C0.out w1 H1.out.2) ?_; rintro e w2 ⟨g2, rfl, hB, hb⟩; have H2 : Box (w2.heap[S]? = some (.cells (u8s K) 23 (0, 0)) ∧ Below w.heap.size w w2 ∧ Bytes w2 (some ⟨g2, 0, none⟩) n P) := ⟨row_on H1.out.1 hb, below_to H1.out.2 hb, hB⟩; clear hB hb)
    | (go_at_call 8; refine Calls.mono (HA.out x0 H0.out.2) ?_; rintro e w1 ⟨rfl, hb⟩; have H1 : Box (w1.heap[S]? = some (.cells (u8s K) 23 (0, 0)) ∧ Below w.heap.size w w1) := ⟨row_on H0.out.1 hb, below_to H0.out.2 hb⟩; clear hb))
  go_ret
  exact ⟨rfl, H4.out⟩

set_option maxRecDepth 20000 in
set_option maxHeartbeats 1000000 in
theorem puts_no_15 (K P : List Int) (p v kind : Int) (n : Nat) (a : Option Addr) (len cap : Nat) (w : World) (hT : Tab w) (hKl : K.length = 32)
    (C0 : Box (∀ x, Below w.heap.size w x → Calls Tryd.prog 9 #[.slice a len cap, .int .u8 kind] x fun e w' => ∃ g, e = .returned (.slice (some ⟨g, 0, none⟩) n n) ∧ Bytes w' (some ⟨g, 0, none⟩) n P ∧ Below x.heap.size x w'))
    (C1 : Box (∀ x b, Below w.heap.size w x → Bytes x b n P → Calls Tryd.prog 10 #[.agg (u8s K), .int .u32 p, .int .u64 v, .slice b n n] x fun e w' => e = .returned (.tuple #[.slice none 0 0, .int .i64 15]) ∧ Below x.heap.size x w'))
    (C2 : Box (∀ x, Below w.heap.size w x → Calls Tryd.prog 11 #[.agg (u8s K), .int .u32 p, .int .u64 v, .string (strOfNums P)] x fun e w' => e = .returned (.tuple #[.string ByteArray.empty, .int .i64 15]) ∧ Below x.heap.size x w')) :
    Calls Tryd.prog 3 #[.agg (u8s K), .int .u32 p, .int .u64 v, .slice a len cap, .int .u8 kind] w fun e w' => e = .returned (.bool true) ∧ Below w.heap.size w w' := by
  have HA : Box (∀ x, Below w.heap.size w x → Calls Tryd.prog 8 #[] x fun e w' => e = .returned (.bool true) ∧ Below x.heap.size x w') := ⟨fun x hx => awake_any x (hT.below hx)⟩
  obtain ⟨S, hS⟩ : ∃ S, w.heap.size = S := ⟨_, rfl⟩
  have HS : Hid (w.heap.size = S) := hS
  have H0 : Box ((w.alloc (.cells (u8s K) 23)).heap[S]? = some (.cells (u8s K) 23 (0, 0)) ∧ Below w.heap.size w (w.alloc (.cells (u8s K) 23))) := ⟨al_at hS, (Below.refl _ _).alloc (Nat.le_refl _) _⟩
  have hcz := fun x => conv_zero x none 0
  clear hS hT
  go_enter Tryd.func3, Tryd.ntmps3
  go_upto_region 1 with fail
  rw [HS.out]
  generalize w.alloc (.cells (u8s K) 23) = x0 at H0 ⊢
  go_wp2_with (first
    | (go_at_call 11; refine Calls.mono (C2.out w3 H3.out.2) ?_; rintro e w4 ⟨rfl, hb⟩; have H4 : Box (Below w.heap.size w w4) := ⟨below_to H3.out.2 hb⟩; clear hb)
    | (refine wpList_seeKey S K hKl H3.out.1 rfl (.tmp 5) rfl rfl ?_)
    | (go_at_call 10; refine Calls.mono (C1.out w2 (some ⟨g2, 0, none⟩) H2.out.2.1 H2.out.2.2) ?_; rintro e w3 ⟨rfl, hb⟩; have H3 : Box (w3.heap[S]? = some (.cells (u8s K) 23 (0, 0)) ∧ Below w.heap.size w w3) := ⟨row_on H2.out.1 hb, below_to H2.out.2.1 hb⟩; have cv3 := conv_bytes (H2.out.2.2.below hb) n; clear hb)
    | (refine wpList_seeKey S K hKl H2.out.1 rfl (.tmp 5) rfl rfl ?_)
    | (go_at_call 9; refine Calls.mono (C0.out w1 H1.out.2) ?_; rintro e w2 ⟨g2, rfl, hB, hb⟩; have H2 : Box (w2.heap[S]? = some (.cells (u8s K) 23 (0, 0)) ∧ Below w.heap.size w w2 ∧ Bytes w2 (some ⟨g2, 0, none⟩) n P) := ⟨row_on H1.out.1 hb, below_to H1.out.2 hb, hB⟩; clear hB hb)
    | (go_at_call 8; refine Calls.mono (HA.out x0 H0.out.2) ?_; rintro e w1 ⟨rfl, hb⟩; have H1 : Box (w1.heap[S]? = some (.cells (u8s K) 23 (0, 0)) ∧ Below w.heap.size w w1) := ⟨row_on H0.out.1 hb, below_to H0.out.2 hb⟩; clear hb))
  go_ret
  exact ⟨rfl, H4.out⟩

set_option maxRecDepth 20000 in
set_option maxHeartbeats 1000000 in
theorem puts_ok (K P Z : List Int) (p v kind : Int) (n : Nat) (a : Option Addr) (len cap : Nat) (w : World) (hT : Tab w) (hKl : K.length = 32)
    (C0 : Box (∀ x, Below w.heap.size w x → Calls Tryd.prog 9 #[.slice a len cap, .int .u8 kind] x fun e w' => ∃ g, e = .returned (.slice (some ⟨g, 0, none⟩) n n) ∧ Bytes w' (some ⟨g, 0, none⟩) n P ∧ Below x.heap.size x w'))
    (C1 : Box (∀ x b, Below w.heap.size w x → Bytes x b n P → Calls Tryd.prog 10 #[.agg (u8s K), .int .u32 p, .int .u64 v, .slice b n n] x fun e w' => ∃ g, e = .returned (.tuple #[.slice (some ⟨g, 0, none⟩) 192 192, .int .i64 0]) ∧ Bytes w' (some ⟨g, 0, none⟩) 192 Z ∧ Below x.heap.size x w'))
    (C2 : Box (∀ x, Below w.heap.size w x → Calls Tryd.prog 11 #[.agg (u8s K), .int .u32 p, .int .u64 v, .string (strOfNums P)] x fun e w' => e = .returned (.tuple #[.string (strOfNums Z), .int .i64 0]) ∧ Below x.heap.size x w'))
    (C3 : Box (∀ x b, Below w.heap.size w x → Bytes x b 192 Z → Calls Tryd.prog 12 #[.agg (u8s K), .int .u32 p, .slice b 192 192, .int .i64 (n : Int)] x fun e w' => ∃ a', e = .returned (.tuple #[.int .u64 v, .slice a' n n, .int .i64 0]) ∧ Bytes w' a' n P ∧ Below x.heap.size x w')) :
    Calls Tryd.prog 3 #[.agg (u8s K), .int .u32 p, .int .u64 v, .slice a len cap, .int .u8 kind] w fun e w' => e = .returned (.bool true) ∧ Below w.heap.size w w' := by
  have HA : Box (∀ x, Below w.heap.size w x → Calls Tryd.prog 8 #[] x fun e w' => e = .returned (.bool true) ∧ Below x.heap.size x w') := ⟨fun x hx => awake_any x (hT.below hx)⟩
  obtain ⟨S, hS⟩ : ∃ S, w.heap.size = S := ⟨_, rfl⟩
  have HS : Hid (w.heap.size = S) := hS
  have H0 : Box ((w.alloc (.cells (u8s K) 23)).heap[S]? = some (.cells (u8s K) 23 (0, 0)) ∧ Below w.heap.size w (w.alloc (.cells (u8s K) 23))) := ⟨al_at hS, (Below.refl _ _).alloc (Nat.le_refl _) _⟩
  clear hS hT
  go_enter Tryd.func3, Tryd.ntmps3
  go_upto_region 1 with fail
  rw [HS.out]
  generalize w.alloc (.cells (u8s K) 23) = x0 at H0 ⊢
  go_wp2_with (first
    | (go_at_call 12; refine Calls.mono (C3.out w4 (some ⟨g3, 0, none⟩) H4.out.2.1 H4.out.2.2.2) ?_; rintro e w5 ⟨a5, rfl, hB, hb⟩; have H5 : Box (Below w.heap.size w w5) := ⟨below_to H4.out.2.1 hb⟩; have cv5 := conv_bytes hB n; have cv6 := conv_bytes (H4.out.2.2.1.below hb) n; clear hb hB)
    | (refine wpList_seeKey S K hKl H4.out.1 rfl (.tmp 5) rfl rfl ?_)
    | (go_at_call 11; refine Calls.mono (C2.out w3 H3.out.2.1) ?_; rintro e w4 ⟨rfl, hb⟩; have H4 : Box (w4.heap[S]? = some (.cells (u8s K) 23 (0, 0)) ∧ Below w.heap.size w w4 ∧ Bytes w4 (some ⟨g2, 0, none⟩) n P ∧ Bytes w4 (some ⟨g3, 0, none⟩) 192 Z) := ⟨row_on H3.out.1 hb, below_to H3.out.2.1 hb, H3.out.2.2.1.below hb, H3.out.2.2.2.below hb⟩; have cv4 := conv_bytes (H3.out.2.2.2.below hb) 192; clear hb)
    | (refine wpList_seeKey S K hKl H3.out.1 rfl (.tmp 5) rfl rfl ?_)
    | (go_at_call 10; refine Calls.mono (C1.out w2 (some ⟨g2, 0, none⟩) H2.out.2.1 H2.out.2.2) ?_; rintro e w3 ⟨g3, rfl, hB, hb⟩; have H3 : Box (w3.heap[S]? = some (.cells (u8s K) 23 (0, 0)) ∧ Below w.heap.size w w3 ∧ Bytes w3 (some ⟨g2, 0, none⟩) n P ∧ Bytes w3 (some ⟨g3, 0, none⟩) 192 Z) := ⟨row_on H2.out.1 hb, below_to H2.out.2.1 hb, H2.out.2.2.below hb, hB⟩; have cv3 := conv_bytes (H2.out.2.2.below hb) n; clear hb hB)
    | (refine wpList_seeKey S K hKl H2.out.1 rfl (.tmp 5) rfl rfl ?_)
    | (go_at_call 9; refine Calls.mono (C0.out w1 H1.out.2) ?_; rintro e w2 ⟨g2, rfl, hB, hb⟩; have H2 : Box (w2.heap[S]? = some (.cells (u8s K) 23 (0, 0)) ∧ Below w.heap.size w w2 ∧ Bytes w2 (some ⟨g2, 0, none⟩) n P) := ⟨row_on H1.out.1 hb, below_to H1.out.2 hb, hB⟩; clear hB hb)
    | (go_at_call 8; refine Calls.mono (HA.out x0 H0.out.2) ?_; rintro e w1 ⟨rfl, hb⟩; have H1 : Box (w1.heap[S]? = some (.cells (u8s K) 23 (0, 0)) ∧ Below w.heap.size w w1) := ⟨row_on H0.out.1 hb, below_to H0.out.2 hb⟩; clear hb))
  go_ret
  exact ⟨rfl, H5.out⟩

theorem sealPuts_walk (K : List Int) (p v : Int) (a : Option Addr) (len cap : Nat) (zs : List Int) (kind : Int) (W : World) (hT : Tab W) (hKl : K.length = 32) (hKb : Byt K) (w1 : (Lit.int .u32 p).wf = true) (w2 : (Lit.int .u64 v).wf = true) (hR : IsRow .u8 W a len cap zs) (w4 : (Lit.int .u8 kind).wf = true) :
    Calls Tryd.prog 3 #[.agg (u8s K), .int .u32 p, .int .u64 v, .slice a len cap, .int .u8 kind] W fun e w' => e = .returned (.bool true) ∧ Below W.heap.size W w' := by
  have b1 := bounds_u32 w1
  have b2 := bounds_u64 w2
  have b4 := bounds_u8 w4
  have hB := hR.bytes
  have hp : W32 p := ⟨by omega, by omega⟩
  have hv : 0 ≤ v ∧ v ≤ 18446744073709551615 := ⟨by omega, by omega⟩
  obtain ⟨n, hn⟩ : ∃ n, kd kind = n := ⟨_, rfl⟩
  obtain ⟨P, hP⟩ : ∃ P, padTo (zs.take len) n = P := ⟨_, rfl⟩
  have hPl : P.length = n := by rw [← hP]; exact length_padTo _ _
  have hPb : Byt P := by rw [← hP]; exact byt_padTo _ _ hB.2.1
  have hs : (strOfNums P).size = n := by rw [str_size, hPl]
  have C0 : Box (∀ x, Below W.heap.size W x → Calls Tryd.prog 9 #[.slice a len cap, .int .u8 kind] x fun e w' => ∃ g, e = .returned (.slice (some ⟨g, 0, none⟩) n n) ∧ Bytes w' (some ⟨g, 0, none⟩) n P ∧ Below x.heap.size x w') := ⟨fun x hx => by
    refine Calls.mono (long_any a len cap (zs.take len) kind x (hB.below hx) hR.len ⟨by omega, by omega⟩) ?_
    rintro e w' ⟨g, he, ho⟩
    rw [hn] at he ho
    rw [hP] at ho
    exact ⟨g, he, ho.bytes hPb, ho.2.2⟩⟩
  by_cases h1 : (¬ n = 160 ∧ ¬ n = 176) ∨ ((n = 160 ∨ n = 176) ∧ v = 0)
  · exact puts_no_1 K P p v kind n a len cap W hT hKl C0 ⟨fun x b hx hb => seal_arg K p v b n n x h1⟩ ⟨fun x hx => rseal_arg K p v _ n hs x h1⟩
  · have hf : n = 160 ∨ n = 176 := by omega
    by_cases h2 : v = 18446744073709551615
    · subst h2
      exact puts_no_15 K P p _ kind n a len cap W hT hKl C0 ⟨fun x b hx hb => seal_worn K p b n n x hf⟩ ⟨fun x hx => rseal_worn K p _ n hs x hf⟩
    · have h0 : ¬ v = 0 := by omega
      refine puts_ok K P (sl K p v P) p v kind n a len cap W hT hKl C0 ⟨fun x b hx hb => ?_⟩ ⟨fun x hx => rseal_ok K P p v n x hKl hKb hPb hPl hp h0 h2 hv hf⟩ ⟨fun x b hx hb => ?_⟩
      · exact (seal_ok K P p v b n n x (hT.below hx) hKl hKb hp h0 h2 hv hb hf).mono fun e w' ⟨g, he, ho⟩ => ⟨g, he, ho.bytes (byt_sl _ _ _ _), ho.2.2⟩
      · have h := open_ok K (sl K p v P) p n b 192 x (hT.below hx) hKl hKb hp hf hb (by omega) (sl_fit K p v P n hPl (by omega) hv h0 h2)
        rw [sl_num K p v P n hPl (by omega) hv, op_sl K p v P n hPl hPb (by omega) hv] at h
        exact h
end Go.Proofs.YtgfpbbikdmnnhaaDoor
