/-
  Plain facts on rows of bytes that a call makes itself, on padding and on sums; nothing of the program is said here.
-/
import Derived.Test.YtpdggopkalbbeaaU1
namespace Go.Proofs.Ytpdggopkalbbeaa.Plain
set_option linter.unusedVariables false
open Go.RowKit

theorem made_row {w' : World} {base g n : Nat} (h : w'.ownsRow base 5 1 (.slice (some ⟨g, 0, none⟩) n n) n (madeCells (Value.int .u8 0).cells (n * 1)).toList) :
    w'.heap[g]? = some (.cells (List.replicate n (.int .u8 0)).toArray 5 (0, 0)) := by
  obtain ⟨h1, h2⟩ := h
  rcases h2 with ⟨h3, _⟩ | ⟨g', cap, cur, h3, _, hh, _, _, hs, ht⟩
  · simp at h3
  · simp only [Value.slice.injEq, Option.some.injEq, Addr.mk.injEq, and_true, true_and] at h3
    obtain ⟨rfl, rfl⟩ := h3
    have e : (Value.int .u8 0).cells = #[Value.int .u8 0] := rfl
    rw [e, toList_madeCells_one, Nat.mul_one, List.take_of_length_le (by simp at hs ⊢; omega)] at ht
    rw [hh, ← ht]

/-- A slice value of the call's own: it has the bytes L, in blocks that were not there before; nothing that was there has turned. -/
def Out (w w' : World) (a : Option Addr) (n cap : Nat) (L : List Int) : Prop :=
  L.length = n ∧ w'.ownsRow w.heap.size 5 1 (.slice a n cap) n (L.map (Value.int .u8)) ∧ Below w.heap.size w w'

theorem Out.of_row {w w' : World} {g n : Nat} {L : List Int} (hn : L.length = n) (hm : n ≤ maxLen) (hg : w.heap.size ≤ g) (hr : w'.heap[g]? = some (.cells (L.map (Value.int .u8)).toArray 5 (0, 0))) (hb : Below w.heap.size w w') : Out w w' (some ⟨g, 0, none⟩) n n L :=
  ⟨hn, ⟨by simp [hn], .inr ⟨g, n, _, rfl, hg, hr, Nat.le_refl _, hm, by simp [hn], List.take_of_length_le (by simp [hn])⟩⟩, hb⟩

theorem Out.nil {w w' : World} (hb : Below w.heap.size w w') : Out w w' none 0 0 [] := ⟨rfl, World.ownsRow_nil _ _ _ _, hb⟩

theorem Out.bytes {w w' : World} {a : Option Addr} {n cap : Nat} {L : List Int} (h : Out w w' a n cap L) (hL : ∀ i, 0 ≤ L.getD i 0 ∧ L.getD i 0 ≤ 255) : Bytes w' a n L := by
  refine ⟨h.1, hL, fun hp => ?_⟩
  have ho := h.2.1
  rcases ho.2 with ⟨_, h3⟩ | ⟨g, cap', cur, h3, _, hh, _, _, _, _⟩
  · omega
  · simp only [Value.slice.injEq, true_and] at h3
    obtain ⟨rfl, rfl⟩ := h3
    refine ⟨g, 0, rfl, (Array.getElem?_eq_some_iff.1 hh).1, fun i hi => ?_⟩
    rw [Nat.zero_add, ho.cellAt i (by omega)]
    have hi' : i < L.length := by rw [h.1]; exact hi
    simp [hi']

theorem Out.later {w w' w'' : World} {a : Option Addr} {n cap : Nat} {L : List Int} (h : Out w w' a n cap L) (hb : Below w'.heap.size w' w'') : Out w w'' a n cap L := by
  refine ⟨h.1, ⟨h.2.1.1, ?_⟩, h.2.2.trans (hb.mono h.2.2.size)⟩
  rcases h.2.1.2 with h3 | ⟨g, cap', cur, h3, hb', hh, r⟩
  · exact .inl h3
  · exact .inr ⟨g, cap', cur, h3, hb', by rw [hb.block g (Array.getElem?_eq_some_iff.1 hh).1]; exact hh, r⟩

theorem bytesOf_bd (x : Int) (k : Nat) : ∀ i, 0 ≤ (bytesOf x k).getD i 0 ∧ (bytesOf x k).getD i 0 ≤ 255 := by
  induction k with
  | zero => intro i; simp [bytesOf]
  | succ k ih =>
    intro i
    rw [bytesOf]
    by_cases h : i < (bytesOf x k).length
    · have := ih i
      simpa [List.getD, List.getElem?_append_left h] using this
    · have hb := byteAt_bd x k
      simp only [List.getD, List.getElem?_append_right (Nat.le_of_not_lt h)]
      by_cases e : i - (bytesOf x k).length = 0
      · rw [e]; simpa using hb
      · rw [List.getElem?_eq_none (by simp; omega)]; simp

theorem Bytes.src {w : World} {a : Option Addr} {len : Nat} {L : List Int} (h : Bytes w a len L) (hp : 0 < len) : ∃ ad, a = some ad ∧ ∀ j v, (L.map (Value.int .u8))[j]? = some v → w.cell? (ad.add j) = some v := by
  obtain ⟨b, off, rfl, _, hc⟩ := h.2.2 hp
  refine ⟨_, rfl, fun j v hj => ?_⟩
  have hlt : j < L.length := by simpa using (List.getElem?_eq_some_iff.1 hj).1
  rw [Addr.add_lit, hc j (by rw [← h.1]; exact hlt), ← hj]
  simp [hlt]
theorem splice_map (L cs : List Int) (off : Nat) : splice (L.map (Value.int .u8)) off (cs.map (Value.int .u8)) = (splice L off cs).map (Value.int .u8) := by simp [splice]
theorem splice_all {α : Type} (Z cs : List α) (h : Z.length = cs.length) : splice Z 0 cs = cs := by simp [splice, h]
theorem min_self' (n : Nat) : n = Nat.min n n := (Nat.min_self n).symm
theorem splice_bd (L cs : List Int) (off : Nat) (hL : ∀ i, 0 ≤ L.getD i 0 ∧ L.getD i 0 ≤ 255) (hc : ∀ i, 0 ≤ cs.getD i 0 ∧ cs.getD i 0 ≤ 255) : ∀ i, 0 ≤ (splice L off cs).getD i 0 ∧ (splice L off cs).getD i 0 ≤ 255 := by
  have key : ∀ L : List Int, (∀ i, 0 ≤ L.getD i 0 ∧ L.getD i 0 ≤ 255) ↔ ∀ z ∈ L, 0 ≤ z ∧ z ≤ 255 := by
    intro L
    constructor
    · intro h z hz
      obtain ⟨i, hi, rfl⟩ := List.getElem_of_mem hz
      simpa [hi] using h i
    · intro h i
      by_cases hi : i < L.length
      · simpa [hi] using h _ (List.getElem_mem hi)
      · simp [List.getElem?_eq_none (Nat.le_of_not_lt hi)]
  rw [key] at hL hc ⊢
  intro z hz
  simp only [splice, List.mem_append] at hz
  rcases hz with h | h | h
  · exact hL z (List.mem_of_mem_take h)
  · exact hc z h
  · exact hL z (List.mem_of_mem_drop h)

/-- The first n bytes, with noughts behind where there are fewer. -/
def padTo (L : List Int) (n : Nat) : List Int := L.take n ++ List.replicate (n - L.length) 0
theorem length_padTo (L : List Int) (n : Nat) : (padTo L n).length = n := by simp [padTo]; omega
theorem splice_pad (L : List Int) (n : Nat) : splice (List.replicate n (Value.int .u8 0)) 0 ((L.take n).map (Value.int .u8)) = (padTo L n).map (Value.int .u8) := by
  simp [splice, padTo]
  omega
theorem length_cut (L : List Int) (n len : Nat) (h : L.length = len) : ((L.take n).map (Value.int .u8)).length = Nat.min len n := by
  rw [List.length_map, List.length_take, h]; exact Nat.min_comm _ _
theorem pos_cut (L : List Int) (n len : Nat) (h : L.length = len) (hp : 0 < ((L.take n).map (Value.int .u8)).length) : 0 < len := by
  rw [List.length_map, List.length_take] at hp; omega
theorem fit_cut (L : List Int) (n : Nat) : 0 + ((L.take n).map (Value.int .u8)).length ≤ (List.replicate n (Value.int .u8 0)).length := by
  simp; omega
theorem Bytes.src_take {w : World} {a : Option Addr} {len : Nat} {L : List Int} (h : Bytes w a len L) (n : Nat) (hp : 0 < len) : ∃ ad, a = some ad ∧ ∀ j v, ((L.take n).map (Value.int .u8))[j]? = some v → w.cell? (ad.add j) = some v := by
  obtain ⟨ad, rfl, hc⟩ := h.src hp
  refine ⟨_, rfl, fun j v hj => hc j v ?_⟩
  rw [List.map_take, List.getElem?_take] at hj
  split at hj
  · exact hj
  · simp at hj

/-- The numbers L stand, one behind the other, where a slice's address says. -/
def Nums (w : World) (a : Option Addr) (len : Nat) (L : List Int) : Prop :=
  L.length = len ∧ (∀ i, 0 ≤ L.getD i 0 ∧ L.getD i 0 ≤ 18446744073709551615) ∧ (0 < len → ∃ b off, a = some ⟨b, off, none⟩ ∧ b < w.heap.size ∧ ∀ i, i < len → w.cell? ⟨b, off + i, none⟩ = some (.int .u64 (L.getD i 0)))
theorem Nums.below {w w' : World} {a : Option Addr} {len : Nat} {L : List Int} (h : Nums w a len L) (hb : Below w.heap.size w w') : Nums w' a len L := by
  refine ⟨h.1, h.2.1, fun hp => ?_⟩
  obtain ⟨b, off, e, hlt, hc⟩ := h.2.2 hp
  exact ⟨b, off, e, Nat.lt_of_lt_of_le hlt hb.size, fun i hi => (hb.cell hlt).trans (hc i hi)⟩
def sumTo (L : List Int) : Nat → Int
  | 0 => 0
  | k + 1 => sumTo L k + L.getD k 0
theorem sumTo_mono (L : List Int) (hL : ∀ i, 0 ≤ L.getD i 0 ∧ L.getD i 0 ≤ 18446744073709551615) (k n : Nat) (h : k ≤ n) : sumTo L k ≤ sumTo L n := by
  induction n with
  | zero => rw [Nat.le_zero.1 h]; exact Int.le_refl _
  | succ n ih =>
    by_cases e : k = n + 1
    · rw [e]; exact Int.le_refl _
    · have := ih (by omega)
      have := hL n
      rw [sumTo]; omega
theorem sumTo_nonneg (L : List Int) (hL : ∀ i, 0 ≤ L.getD i 0 ∧ L.getD i 0 ≤ 18446744073709551615) (k : Nat) : 0 ≤ sumTo L k := sumTo_mono L hL 0 k (Nat.zero_le _)
theorem wrap_over (s z : Int) (hs : 0 ≤ s ∧ s ≤ 18446744073709551615) (hz : 0 ≤ z ∧ z ≤ 18446744073709551615) (h : 18446744073709551615 < s + z) : IntKind.u64.wrap (s + z) < z := by
  rw [IntKind.wrap_u64]; omega

end Go.Proofs.Ytpdggopkalbbeaa.Plain
