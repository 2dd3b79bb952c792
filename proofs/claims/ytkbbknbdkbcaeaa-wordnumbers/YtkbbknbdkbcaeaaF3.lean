/-
  What the reference's Set answers, for every argument that the statements hand it.
-/
import Derived.Test.YtkbbknbdkbcaeaaF2
namespace Go.Proofs.Ytkbbknbdkbcaeaa
set_option linter.unusedVariables false
open Go.RowKit Plain

set_option maxHeartbeats 400000 in
theorem rset_arg (a : Option Addr) (len cap : Nat) (p n x : Int) (w : World) (h : n < 1 ∨ 8 < n) :
    Calls Try.prog 13 #[.slice a len cap, .int .i64 p, .int .i64 n, .int .u64 x] w fun e w' => e = .returned (.tuple #[.slice none 0 0, .int .i64 1]) ∧ w = w' := by
  go_enter Try.func13, Try.ntmps13
  go_wp2_with (go_at_call 11; refine (rget_arg _ _ _ _ _ _ h).mono ?_; rintro e w' ⟨rfl, rfl⟩)
  go_ret2
  exact ⟨rfl, rfl⟩

set_option maxHeartbeats 400000 in
theorem rset_range (a : Option Addr) (len cap : Nat) (p n x : Int) (w : World) (h1 : 1 ≤ n) (h2 : n ≤ 8) (hl : len ≤ maxLen) (h : p < 0 ∨ (len : Int) - n < p) :
    Calls Try.prog 13 #[.slice a len cap, .int .i64 p, .int .i64 n, .int .u64 x] w fun e w' => e = .returned (.tuple #[.slice none 0 0, .int .i64 12]) ∧ w = w' := by
  go_enter Try.func13, Try.ntmps13
  go_wp2_with (go_at_call 11; refine (rget_range _ _ _ _ _ _ h1 h2 hl h).mono ?_; rintro e w' ⟨rfl, rfl⟩)
  go_ret2
  exact ⟨rfl, rfl⟩

theorem bytes_take {w : World} {a : Option Addr} {len : Nat} {L : List Int} (h : Bytes w a len L) (p : Nat) (hp : p ≤ len) : Bytes w a p (L.take p) := by
  have h1 := h.1
  refine ⟨by simp; omega, fun i => ?_, fun h0 => ?_⟩
  · by_cases hi : i < p
    · have := h.2.1 i
      simpa only [List.getD, List.getElem?_take, if_pos hi] using this
    · simp [List.getD, List.getElem?_take, hi]
  · obtain ⟨b, off, e, hlt, hc⟩ := h.2.2 (by omega)
    refine ⟨b, off, e, hlt, fun i hi => ?_⟩
    rw [hc i (by omega)]
    simp only [List.getD, List.getElem?_take, if_pos hi]
theorem bytes_drop {w : World} {b off len : Nat} {L : List Int} (h : Bytes w (some ⟨b, off, none⟩) len L) (p : Nat) (hp : p ≤ len) : Bytes w (some ⟨b, off + p, none⟩) (len - p) (L.drop p) := by
  have h1 := h.1
  have hg : ∀ i, (L.drop p).getD i 0 = L.getD (p + i) 0 := fun i => by simp only [List.getD, List.getElem?_drop]
  refine ⟨by simp; omega, fun i => ?_, fun h0 => ?_⟩
  · rw [hg]; exact h.2.1 _
  · obtain ⟨b', off', e, hlt, hc⟩ := h.2.2 (by omega)
    simp only [Option.some.injEq, Addr.mk.injEq, and_true] at e
    obtain ⟨rfl, rfl⟩ := e
    refine ⟨b, off + p, rfl, hlt, fun i hi => ?_⟩
    rw [hg, ← hc (p + i) (by omega), Nat.add_assoc]
theorem own_append {w' : World} {base n m : Nat} {v : Value} {A B : List Int} (h : w'.ownsRow base 5 1 v (n + m) (A.map (Value.int .u8) ++ B.map (Value.int .u8))) : w'.ownsRow base 5 1 v (n + m) ((A ++ B).map (Value.int .u8)) := by
  rw [List.map_append]; exact h
theorem map_len {L : List Int} {m : Nat} (h : L.length = m) : (L.map (Value.int .u8)).length = m * 1 := by simp [h]
theorem own_slice_some {w : World} {base n cap : Nat} {a : Option Addr} {xs : List Value} (h : w.ownsRow base 5 1 (.slice a n cap) n xs) (hn : 0 < n) : ∃ ad, a = some ad := by
  rcases h.2 with ⟨_, h0⟩ | ⟨g, c, cur, h3, _⟩
  · omega
  · simp only [Value.slice.injEq, true_and] at h3
    exact ⟨_, h3.1⟩

set_option maxHeartbeats 1000000 in
theorem rset_ok (a : Option Addr) (len cap : Nat) (L : List Int) (p n : Nat) (x : Int) (w : World) (hb : Bytes w a len L) (hl : len ≤ 3000) (hcp : len ≤ cap) (hcm : cap ≤ maxLen) (h1 : 1 ≤ n) (h2 : n ≤ 8) (hp : p + n ≤ len) (hx : 0 ≤ x ∧ x ≤ 18446744073709551615) :
    Calls Try.prog 13 #[.slice a len cap, .int .i64 p, .int .i64 n, .int .u64 x] w fun e w' => ∃ a' cap', e = .returned (.tuple #[.slice a' len cap', .int .i64 0]) ∧ Out w w' a' len cap' (splice L p (bytesOf x n)) := by
  obtain ⟨i0, hi, hz0, hz1, hz2⟩ := info_parts Try.info5
  have hlm : len ≤ maxLen := by unfold maxLen; omega
  have hcm' := hcm
  unfold maxLen at hcm'
  have hLl := hb.1
  obtain ⟨b, off, rfl, hblt, _⟩ := hb.2.2 (by omega)
  have hpl : p < len := by omega
  have hpc : p ≤ cap := by omega
  have hT := bytes_take hb p (by omega)
  have hTl := map_len hT.1
  have hBl := map_len (length_bytesOf x n)
  have hsp : (L.take p ++ bytesOf x n) ++ L.drop (p + n) = splice L p (bytesOf x n) := by rw [splice, length_bytesOf, List.append_assoc]
  have hsl : (splice L p (bytesOf x n)).length = len := by rw [length_splice _ _ _ (by rw [length_bytesOf]; omega)]; exact hLl
  by_cases hcap : p + n = cap
  · have hsn : L.drop (p + n) = [] := List.drop_eq_nil_of_le (by omega)
    rw [hsn] at hsp
    go_enter Try.func13, Try.ntmps13
    go_wp2_with (first | (go_at_call 11; refine (rget_ok _ len cap L p n _ hb hlm h1 h2 hp).mono ?_; rintro e w' ⟨rfl, rfl⟩) | (at_builtin; refine wpList_append_own _ rfl (.tmp 23) (.tmp 26) 22 rfl w.heap.size 5 i0 (.int .u8 0) 1 1 Try.underlying22 hi hz0 hz1 hz2 rfl (by decide) (.slice none 0 0) 0 [] rfl (World.ownsRow_nil _ _ _ _) ⟨b, off, none⟩ p cap ((L.take p).map (Value.int .u8)) rfl hTl hT.news (ints_oneCell _ _) (by unfold maxLen; omega) (by omega) (Nat.le_refl _) ?_; intro v1 w1 hown1 hgrow1 _) | fail)
    have hbel1 := (Below.refl w.heap.size w).grown hgrow1 (Nat.le_refl _) (by simp [Value.ownBlock])
    refine (rput_any x n n _ hx (by omega) (by omega)).mono ?_
    rintro e w2 ⟨a2, c2, rfl, ho2⟩
    obtain ⟨ad2, rfl⟩ := own_slice_some ho2.2.1 (by omega)
    have hown2 := own_later hown1 ho2.2.2
    have hby2 := (ho2.bytes (bytesOf_bd x n)).news
    have hbel2 := hbel1.trans (ho2.2.2.mono hbel1.size)
    clear hown1 hgrow1 ho2 hbel1
    go_wp2_with (first | (at_builtin; refine wpList_append_own _ rfl (.tmp 28) (.tmp 31) 22 rfl w.heap.size 5 i0 (.int .u8 0) 1 1 Try.underlying22 hi hz0 hz1 hz2 rfl (by decide) v1 _ _ rfl hown2 _ _ _ ((bytesOf x n).map (Value.int .u8)) rfl hBl hby2 (ints_oneCell _ _) (by unfold maxLen; omega) (by omega) hbel2.size ?_; intro v3 w3 hown3 hgrow3 _; have hbel3 := hbel2.grown hgrow3 hbel2.size (own_block_le hown2); have hb3 := hb.below hbel3; clear hown2 hby2 hgrow3) | (at_builtin; refine wpList_append_own _ rfl (.tmp 33) (.tmp 38) 22 rfl w.heap.size 5 i0 (.int .u8 0) 1 1 Try.underlying22 hi hz0 hz1 hz2 rfl (by decide) v3 _ _ rfl hown3 ⟨b, off, none⟩ (len - (p + n)) (cap - (p + n)) [] rfl (by simp; omega) (by simp) (by simp) (by unfold maxLen; omega) (by omega) hbel3.size ?_; intro v4 w4 hown4 hgrow4 _; have hbel4 := hbel3.grown hgrow4 hbel3.size (own_block_le hown3); rw [show 0 + p + n + (len - (p + n)) = len by omega] at hown4; obtain ⟨a4, c4, rfl⟩ := own_form hown4; clear hown3 hgrow4))
    go_ret2
    refine ⟨a4, c4, rfl, hsl, ?_, hbel4⟩
    rw [← hsp]
    simpa using hown4
  · have hlc : ¬ cap = p + n := by omega
    go_enter Try.func13, Try.ntmps13
    go_wp2_with (first | (go_at_call 11; refine (rget_ok _ len cap L p n _ hb hlm h1 h2 hp).mono ?_; rintro e w' ⟨rfl, rfl⟩) | (at_builtin; refine wpList_append_own _ rfl (.tmp 23) (.tmp 26) 22 rfl w.heap.size 5 i0 (.int .u8 0) 1 1 Try.underlying22 hi hz0 hz1 hz2 rfl (by decide) (.slice none 0 0) 0 [] rfl (World.ownsRow_nil _ _ _ _) ⟨b, off, none⟩ p cap ((L.take p).map (Value.int .u8)) rfl hTl hT.news (ints_oneCell _ _) (by unfold maxLen; omega) (by omega) (Nat.le_refl _) ?_; intro v1 w1 hown1 hgrow1 _) | fail)
    have hbel1 := (Below.refl w.heap.size w).grown hgrow1 (Nat.le_refl _) (by simp [Value.ownBlock])
    refine (rput_any x n n _ hx (by omega) (by omega)).mono ?_
    rintro e w2 ⟨a2, c2, rfl, ho2⟩
    obtain ⟨ad2, rfl⟩ := own_slice_some ho2.2.1 (by omega)
    have hown2 := own_later hown1 ho2.2.2
    have hby2 := (ho2.bytes (bytesOf_bd x n)).news
    have hbel2 := hbel1.trans (ho2.2.2.mono hbel1.size)
    clear hown1 hgrow1 ho2 hbel1
    go_wp2_with (first | (at_builtin; refine wpList_append_own _ rfl (.tmp 28) (.tmp 31) 22 rfl w.heap.size 5 i0 (.int .u8 0) 1 1 Try.underlying22 hi hz0 hz1 hz2 rfl (by decide) v1 _ _ rfl hown2 _ _ _ ((bytesOf x n).map (Value.int .u8)) rfl hBl hby2 (ints_oneCell _ _) (by unfold maxLen; omega) (by omega) hbel2.size ?_; intro v3 w3 hown3 hgrow3 _; have hbel3 := hbel2.grown hgrow3 hbel2.size (own_block_le hown2); have hb3 := hb.below hbel3; clear hown2 hby2 hgrow3; have hD3 := bytes_drop hb3 (p + n) hp; have hDl := map_len hD3.1) | (at_builtin; refine wpList_append_own _ rfl (.tmp 33) (.tmp 38) 22 rfl w.heap.size 5 i0 (.int .u8 0) 1 1 Try.underlying22 hi hz0 hz1 hz2 rfl (by decide) v3 _ _ rfl hown3 ⟨b, off + (p + n), none⟩ (len - (p + n)) (cap - (p + n)) ((L.drop (p + n)).map (Value.int .u8)) rfl hDl hD3.news (ints_oneCell _ _) (by unfold maxLen; omega) (by omega) hbel3.size ?_; intro v4 w4 hown4 hgrow4 _; have hbel4 := hbel3.grown hgrow4 hbel3.size (own_block_le hown3); rw [show 0 + p + n + (len - (p + n)) = len by omega] at hown4; obtain ⟨a4, c4, rfl⟩ := own_form hown4; clear hown3 hgrow4))
    go_ret2
    refine ⟨a4, c4, rfl, hsl, ?_, hbel4⟩
    rw [← hsp]
    simpa using hown4

end Go.Proofs.Ytkbbknbdkbcaeaa
