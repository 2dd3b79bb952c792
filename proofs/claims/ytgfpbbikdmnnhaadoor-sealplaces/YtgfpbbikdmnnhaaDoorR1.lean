/-
  What the Go functions that turn a word left answer (the library's RotateLeft32, the reference's left), for every word and 1 to 31 places; what the closure that turns a word does.
-/
import Derived.Test.YtgfpbbikdmnnhaaDoorRows
import Derived.Test.YtgfpbbikdmnnhaaDoorC1
import Derived.WalkKit
import Derived.WalkSpells
import Derived.WalkLawsBesides
import Derived.BigRegion
import Derived.Deep.RegionWith
import Derived.Deep.QuietTactic
import Derived.BigQuiet
namespace Go.Proofs.YtgfpbbikdmnnhaaDoor
set_option linter.unusedVariables false
open Go.RowKit Plain

theorem rot_any (x : Int) (n : Nat) (w : World) (h : W32 x) (hn : 1 ≤ n) (hn' : n ≤ 31) :
    Calls Tryd.prog 41 #[.int .u32 x, .int .i64 n] w fun e w' => e = .returned (.int .u32 (rotl x n)) ∧ w = w' := by
  obtain ⟨h0, h1⟩ := h
  have hb := and31 n hn'
  have HR : Hid (bits .or .u32 (x * 2 ^ n % 4294967296) (x / 2 ^ (32 - n)) = rotl x n) := by unfold rotl; rfl
  go_enter Tryd.func41, Tryd.ntmps41
  go_wp2
  go_ret
  exact ⟨by rw [← HR.out]; rfl, rfl⟩
theorem left_any (x : Int) (n : Nat) (w : World) (h : W32 x) (hn : 1 ≤ n) (hn' : n ≤ 31) :
    Calls Tryd.prog 38 #[.int .u32 x, .int .u64 n] w fun e w' => e = .returned (.int .u32 (rotl x n)) ∧ w = w' := by
  obtain ⟨h0, h1⟩ := h
  have HR : Hid (bits .or .u32 (x * 2 ^ n % 4294967296) (x / 2 ^ (32 - n)) = rotl x n) := by unfold rotl; rfl
  go_enter Tryd.func38, Tryd.ntmps38
  go_wp2
  go_ret
  exact ⟨by rw [← HR.out]; rfl, rfl⟩
theorem left_k (x k : Int) (w : World) (h : W32 x) (hn : 1 ≤ k) (hn' : k ≤ 31) :
    Calls Tryd.prog 38 #[.int .u32 x, .int .u64 k] w fun e w' => e = .returned (.int .u32 (rotl x k.toNat)) ∧ w = w' := by
  obtain ⟨n, rfl⟩ := Int.eq_ofNat_of_zero_le (by omega : 0 ≤ k)
  exact left_any x n w h (by omega) (by omega)

/-- The words stand in block S. -/
def Ws (w : World) (S : Nat) (L : List Int) : Prop := L.length = 16 ∧ Wrd L ∧ w.heap[S]? = some (.cells (u32s L) 62 (0, 0))
theorem Ws.cell {w : World} {S : Nat} {L : List Int} (h : Ws w S L) (i : Nat) (hi : i < 16) : w.cell? ⟨S, i, none⟩ = some (.int .u32 (L.getD i 0)) := u32_cell w S i L _ _ h.2.2 (by rw [h.1]; exact hi)
theorem Ws.frozen {w : World} {S : Nat} {L : List Int} (h : Ws w S L) (i : Nat) : w.frozen? ⟨S, i, none⟩ = false := frozen_of_row w S i _ 62 h.2.2
theorem Ws.set {w : World} {S : Nat} {L : List Int} (h : Ws w S L) (i : Nat) (v : Int) (hv : W32 v) : Ws (w.setCell ⟨S, i, none⟩ (.int .u32 v)) S (L.set i v) :=
  ⟨by simp [h.1], wrd_set _ _ _ h.2.1 hv, by rw [heap_setCell_same w S i _ 62 _ h.2.2, u32s_set]⟩
theorem Ws.drew {w : World} {S : Nat} {L : List Int} (h : Ws w S L) : Ws w.drew S L := h
theorem Ws.below {w w' : World} {S : Nat} {L : List Int} (h : Ws w S L) (hb : Below w.heap.size w w') : Ws w' S L :=
  ⟨h.1, h.2.1, (hb.block _ (Array.getElem?_eq_some_iff.1 h.2.2).1).trans h.2.2⟩

set_option maxHeartbeats 1000000 in
theorem turn_any (S d a n : Nat) (L : List Int) (w : World) (h : Ws w S L) (hd : d < 16) (ha : a < 16) (hn : 1 ≤ n) (hn' : n ≤ 31) :
    Calls Tryd.prog 40 #[.int .i64 d, .int .i64 a, .int .i64 n, .pointer (some ⟨S, 0, none⟩)] w fun e w' => e = .returned (.tuple #[]) ∧ Ws w' S (tn L d a n) ∧ But S w w' := by
  have c1 := h.cell d hd
  have c2 := h.cell a ha
  have f1 := h.frozen d
  have HN : Box (∀ x y : Int, L.getD d 0 = x → L.getD a 0 = y → Ws (w.drew.setCell ⟨S, d, none⟩ (.int .u32 (rotl (bits .xor .u32 x y) n))) S (tn L d a n) ∧ But S w (w.drew.setCell ⟨S, d, none⟩ (.int .u32 (rotl (bits .xor .u32 x y) n)))) :=
    ⟨fun x y hx hy => by subst hx; subst hy; exact ⟨h.drew.set d _ (W32.rotl _ _), (But.refl S w).drew.setCell _ _⟩⟩
  obtain ⟨x, HX⟩ : ∃ x, Box (L.getD d 0 = x) := ⟨_, ⟨rfl⟩⟩
  obtain ⟨y, HY⟩ : ∃ x, Box (L.getD a 0 = x) := ⟨_, ⟨rfl⟩⟩
  rw [HX.out] at c1
  rw [HY.out] at c2
  have HF := HN.out x y HX.out HY.out
  have hxy : W32 (bits .xor .u32 x y) := W32.bits _ _ _
  have HG : Box _ := ⟨HF⟩
  clear HF HN h
  go_enter Tryd.func40, Tryd.ntmps40
  go_wp2
  go_region_with (go_at_call 41; refine (rot_any _ _ _ hxy hn hn').mono ?_; rintro e w' ⟨rfl, rfl⟩)
  all_goals (go_end0; exact ⟨rfl, HG.out⟩)
end Go.Proofs.YtgfpbbikdmnnhaaDoor
