/-
  Plain facts on bytes, rows of cells and numbers that the walks of this seat lean on; nothing of the program is said here. And what follows it.
-/
import Derived.Laws.CopyOwn
import Derived.WalkKit
namespace Go.Proofs.YtipdaaajnbjnjaaDoor.Plain
set_option maxRecDepth 100000
set_option linter.unusedVariables false
open Go.RowKit
/-- Byte number i of x, the lowest first. -/
def byteAt (x : Int) (i : Nat) : Int := x / 2 ^ (8 * i) % 256
def bytesOf (x : Int) : Nat → List Int
  | 0 => []
  | k + 1 => bytesOf x k ++ [byteAt x k]
def bys (x : Int) (k : Nat) : List Value := (bytesOf x k).map (Value.int .u8)
theorem length_bytesOf (x : Int) (k : Nat) : (bytesOf x k).length = k := by
  induction k with
  | zero => rfl
  | succ k ih => simp [bytesOf, ih]
theorem length_bys (x : Int) (k : Nat) : (bys x k).length = k := by simp [bys, length_bytesOf]
theorem bys_zero (x : Int) : bys x 0 = [] := rfl
theorem bys_succ (x : Int) (k : Nat) : bys x (k + 1) = bys x k ++ [.int .u8 (byteAt x k)] := by simp [bys, bytesOf]
theorem byteAt_bd (x : Int) (i : Nat) : 0 ≤ byteAt x i ∧ byteAt x i ≤ 255 := by unfold byteAt; omega
theorem splice_nil {α : Type} (L : List α) (off : Nat) : splice L off [] = L := by simp [splice]
theorem splice_snoc {α : Type} (L cs : List α) (c : α) (off : Nat) (h : off + cs.length < L.length) : splice L off (cs ++ [c]) = (splice L off cs).set (off + cs.length) c := by
  unfold splice
  have h1 : (L.take off).length = off := by simp; omega
  rw [List.set_append_right _ _ (by omega), h1]
  rw [List.set_append_right _ _ (by omega)]
  have e : off + cs.length - off - cs.length = 0 := by omega
  rw [e]
  have e2 : L.drop (off + cs.length) = L[off + cs.length] :: L.drop (off + cs.length + 1) := by rw [List.drop_eq_getElem_cons]
  rw [e2]
  simp [Nat.add_assoc]
theorem lay_step (w wr : World) (g off k : Nat) (cur : List Value) (x : Int) (h : off + k < cur.length) (hg : wr.heap[g]? = some (.cells (splice cur off (bys x k)).toArray 5 (0, 0))) (hgr : w.grownBy wr (some g)) (hsz : wr.heap.size = w.heap.size) :
    (wr.setCell ⟨g, off + k, none⟩ (.int .u8 (x / 2 ^ (8 * k) % 256))).heap[g]? = some (.cells (splice cur off (bys x (k + 1))).toArray 5 (0, 0)) ∧
      w.grownBy (wr.setCell ⟨g, off + k, none⟩ (.int .u8 (x / 2 ^ (8 * k) % 256))) (some g) ∧ (wr.setCell ⟨g, off + k, none⟩ (.int .u8 (x / 2 ^ (8 * k) % 256))).heap.size = w.heap.size := by
  refine ⟨?_, ?_, by simpa using hsz⟩
  · rw [heap_setCell_same wr g (off + k) _ 5 _ hg, bys_succ, splice_snoc _ _ _ _ (by rw [length_bys]; exact h), length_bys]
    simp [byteAt]
  · refine ⟨hgr.os, hgr.tape, hgr.output, by rw [← hsz]; simp, fun j hj hne => ?_⟩
    rw [heap_setCell_other wr ⟨g, off + k, none⟩ j _ (fun e => hne (by simp [e]))]
    exact hgr.block j hj hne
theorem cell_row (w : World) (g j : Nat) (cur : List Value) (e : TypeId) (hg : w.heap[g]? = some (.cells cur.toArray e (0, 0))) (h : j < cur.length) : ∃ v, w.cell? ⟨g, j, none⟩ = some v :=
  ⟨cur[j], by rw [cell_of_row w g j _ e (0, 0) hg]; simp [h]⟩
/-- The bytes L stand, one behind the other, where a slice's address says. -/
def Bytes (w : World) (a : Option Addr) (len : Nat) (L : List Int) : Prop :=
  L.length = len ∧ (∀ i, 0 ≤ L.getD i 0 ∧ L.getD i 0 ≤ 255) ∧ (0 < len → ∃ b off, a = some ⟨b, off, none⟩ ∧ b < w.heap.size ∧ ∀ i, i < len → w.cell? ⟨b, off + i, none⟩ = some (.int .u8 (L.getD i 0)))
theorem Bytes.below {w w' : World} {a : Option Addr} {len : Nat} {L : List Int} (h : Bytes w a len L) (hb : Below w.heap.size w w') : Bytes w' a len L := by
  refine ⟨h.1, h.2.1, fun hp => ?_⟩
  obtain ⟨b, off, e, hlt, hc⟩ := h.2.2 hp
  exact ⟨b, off, e, Nat.lt_of_lt_of_le hlt hb.size, fun i hi => (hb.cell hlt).trans (hc i hi)⟩
/-- The number of the first k bytes from a place on, the lowest first. -/
def num (L : List Int) (p : Nat) : Nat → Int
  | 0 => 0
  | k + 1 => num L p k + L.getD (p + k) 0 * 2 ^ (8 * k)
theorem num_bd (L : List Int) (p : Nat) (hL : ∀ i, 0 ≤ L.getD i 0 ∧ L.getD i 0 ≤ 255) (k : Nat) : 0 ≤ num L p k ∧ num L p k < 2 ^ (8 * k) := by
  induction k with
  | zero => simp [num]
  | succ k ih =>
    have h := hL (p + k)
    have e : (2 : Int) ^ (8 * (k + 1)) = 256 * 2 ^ (8 * k) := by rw [show 8 * (k + 1) = 8 * k + 8 by omega, Int.pow_add]; omega
    have hp : (0 : Int) < 2 ^ (8 * k) := Int.pow_pos (by omega)
    rw [num, e]
    generalize L.getD (p + k) 0 = z at h ⊢
    have h1 : 0 ≤ z * 2 ^ (8 * k) := Int.mul_nonneg h.1 (by omega)
    have h2 : z * 2 ^ (8 * k) ≤ 255 * 2 ^ (8 * k) := Int.mul_le_mul_of_nonneg_right h.2 (by omega)
    omega
theorem or_step (k : Nat) (hk : k < 8) (t z : Int) (h : 0 ≤ t ∧ t < 2 ^ (8 * k)) (hz : 0 ≤ z ∧ z ≤ 255) : bits .or .u64 t (IntKind.u64.wrap (z * 2 ^ (8 * k))) = t + z * 2 ^ (8 * k) := by
  obtain ⟨T, rfl⟩ := Int.eq_ofNat_of_zero_le h.1
  obtain ⟨Z, rfl⟩ := Int.eq_ofNat_of_zero_le hz.1
  have hp : (Z : Int) * 2 ^ (8 * k) = ((Z * 2 ^ (8 * k) : Nat) : Int) := by simp
  have hT : T < 2 ^ (8 * k) := by
    have := h.2
    exact_mod_cast this
  have h1 : Z * 2 ^ (8 * k) ≤ 255 * 2 ^ 56 := Nat.mul_le_mul (by omega) (Nat.pow_le_pow_right (by omega) (by omega))
  have h2 : 2 ^ (8 * k) ≤ 2 ^ 56 := Nat.pow_le_pow_right (by omega) (by omega)
  rw [hp, IntKind.wrap_u64]
  have hN : Z * 2 ^ (8 * k) < 18446744073709551616 := by omega
  have hM := nat_join (8 * k) (Z * 2 ^ (8 * k)) T (Nat.mul_mod_left _ _) hT
  generalize Z * 2 ^ (8 * k) = N at *
  rw [Int.emod_eq_of_lt (by omega) (by omega), u64_or_nat T N (by omega) hN, Nat.or_comm, hM]
  omega
end Go.Proofs.YtipdaaajnbjnjaaDoor.Plain
namespace Go.Proofs.YtipdaaajnbjnjaaDoor.Plain
set_option maxRecDepth 100000
set_option linter.unusedVariables false
open Go.RowKit
theorem made_row {w' : World} {base g n : Nat} (h : w'.ownsRow base 5 1 (.slice (some ⟨g, 0, none⟩) n n) n (madeCells (Value.int .u8 0).cells (n * 1)).toList) :
    w'.heap[g]? = some (.cells (List.replicate n (.int .u8 0)).toArray 5 (0, 0)) := by
  obtain ⟨h1, h2⟩ := h
  rcases h2 with ⟨h3, _⟩ | ⟨g', cap, cur, h3, _, hh, _, _, hs, ht⟩
  · simp at h3
  · simp only [Value.slice.injEq, Option.some.injEq, Addr.mk.injEq, and_true, true_and] at h3
    obtain ⟨rfl, rfl⟩ := h3
    have e : (Value.int .u8 0).cells = #[Value.int .u8 0] := rfl
    rw [e, toList_madeCells_one, Nat.mul_one, List.take_of_length_le (by simp at hs ⊢; omega)] at ht
    rw [hh, ← ht]
/-- A slice value of the call's own: it has the bytes L, in blocks that were not there before; nothing that was there has turned. -/
def Out (w w' : World) (a : Option Addr) (n cap : Nat) (L : List Int) : Prop :=
  L.length = n ∧ w'.ownsRow w.heap.size 5 1 (.slice a n cap) n (L.map (Value.int .u8)) ∧ Below w.heap.size w w'
theorem Out.of_row {w w' : World} {g n : Nat} {L : List Int} (hn : L.length = n) (hm : n ≤ maxLen) (hg : w.heap.size ≤ g) (hr : w'.heap[g]? = some (.cells (L.map (Value.int .u8)).toArray 5 (0, 0))) (hb : Below w.heap.size w w') : Out w w' (some ⟨g, 0, none⟩) n n L :=
  ⟨hn, ⟨by simp [hn], .inr ⟨g, n, _, rfl, hg, hr, Nat.le_refl _, hm, by simp [hn], List.take_of_length_le (by simp [hn])⟩⟩, hb⟩
theorem Out.nil {w w' : World} (hb : Below w.heap.size w w') : Out w w' none 0 0 [] := ⟨rfl, World.ownsRow_nil _ _ _ _, hb⟩
theorem Out.bytes {w w' : World} {a : Option Addr} {n cap : Nat} {L : List Int} (h : Out w w' a n cap L) (hL : ∀ i, 0 ≤ L.getD i 0 ∧ L.getD i 0 ≤ 255) : Bytes w' a n L := by
  refine ⟨h.1, hL, fun hp => ?_⟩
  have ho := h.2.1
  rcases ho.2 with ⟨_, h3⟩ | ⟨g, cap', cur, h3, _, hh, _, _, _, _⟩
  · omega
  · simp only [Value.slice.injEq, true_and] at h3
    obtain ⟨rfl, rfl⟩ := h3
    refine ⟨g, 0, rfl, (Array.getElem?_eq_some_iff.1 hh).1, fun i hi => ?_⟩
    rw [Nat.zero_add, ho.cellAt i (by omega)]
    have hi' : i < L.length := by rw [h.1]; exact hi
    simp [hi']
theorem Out.later {w w' w'' : World} {a : Option Addr} {n cap : Nat} {L : List Int} (h : Out w w' a n cap L) (hb : Below w'.heap.size w' w'') : Out w w'' a n cap L := by
  refine ⟨h.1, ⟨h.2.1.1, ?_⟩, h.2.2.trans (hb.mono h.2.2.size)⟩
  rcases h.2.1.2 with h3 | ⟨g, cap', cur, h3, hb', hh, r⟩
  · exact .inl h3
  · exact .inr ⟨g, cap', cur, h3, hb', by rw [hb.block g (Array.getElem?_eq_some_iff.1 hh).1]; exact hh, r⟩
theorem bytesOf_bd (x : Int) (k : Nat) : ∀ i, 0 ≤ (bytesOf x k).getD i 0 ∧ (bytesOf x k).getD i 0 ≤ 255 := by
  induction k with
  | zero => intro i; simp [bytesOf]
  | succ k ih =>
    intro i
    rw [bytesOf]
    by_cases h : i < (bytesOf x k).length
    · have := ih i
      simpa [List.getD, List.getElem?_append_left h] using this
    · have hb := byteAt_bd x k
      simp only [List.getD, List.getElem?_append_right (Nat.le_of_not_lt h)]
      by_cases e : i - (bytesOf x k).length = 0
      · rw [e]; simpa using hb
      · rw [List.getElem?_eq_none (by simp; omega)]; simp
theorem Bytes.src {w : World} {a : Option Addr} {len : Nat} {L : List Int} (h : Bytes w a len L) (hp : 0 < len) : ∃ ad, a = some ad ∧ ∀ j v, (L.map (Value.int .u8))[j]? = some v → w.cell? (ad.add j) = some v := by
  obtain ⟨b, off, rfl, _, hc⟩ := h.2.2 hp
  refine ⟨_, rfl, fun j v hj => ?_⟩
  have hlt : j < L.length := by simpa using (List.getElem?_eq_some_iff.1 hj).1
  rw [Addr.add_lit, hc j (by rw [← h.1]; exact hlt), ← hj]
  simp [hlt]
theorem splice_all {α : Type} (Z cs : List α) (h : Z.length = cs.length) : splice Z 0 cs = cs := by simp [splice, h]
/-- The first n bytes, with noughts behind where there are fewer. -/
def padTo (L : List Int) (n : Nat) : List Int := L.take n ++ List.replicate (n - L.length) 0
theorem length_padTo (L : List Int) (n : Nat) : (padTo L n).length = n := by simp [padTo]; omega
theorem splice_pad (L : List Int) (n : Nat) : splice (List.replicate n (Value.int .u8 0)) 0 ((L.take n).map (Value.int .u8)) = (padTo L n).map (Value.int .u8) := by
  simp [splice, padTo]
  omega
theorem length_cut (L : List Int) (n len : Nat) (h : L.length = len) : ((L.take n).map (Value.int .u8)).length = Nat.min len n := by
  rw [List.length_map, List.length_take, h]; exact Nat.min_comm _ _
theorem pos_cut (L : List Int) (n len : Nat) (h : L.length = len) (hp : 0 < ((L.take n).map (Value.int .u8)).length) : 0 < len := by
  rw [List.length_map, List.length_take] at hp; omega
theorem fit_cut (L : List Int) (n : Nat) : 0 + ((L.take n).map (Value.int .u8)).length ≤ (List.replicate n (Value.int .u8 0)).length := by
  simp; omega
theorem Bytes.src_take {w : World} {a : Option Addr} {len : Nat} {L : List Int} (h : Bytes w a len L) (n : Nat) (hp : 0 < len) : ∃ ad, a = some ad ∧ ∀ j v, ((L.take n).map (Value.int .u8))[j]? = some v → w.cell? (ad.add j) = some v := by
  obtain ⟨ad, rfl, hc⟩ := h.src hp
  refine ⟨_, rfl, fun j v hj => hc j v ?_⟩
  rw [List.map_take, List.getElem?_take] at hj
  split at hj
  · exact hj
  · simp at hj
/-- The numbers L stand, one behind the other, where a slice's address says. -/
def Nums (w : World) (a : Option Addr) (len : Nat) (L : List Int) : Prop :=
  L.length = len ∧ (∀ i, 0 ≤ L.getD i 0 ∧ L.getD i 0 ≤ 18446744073709551615) ∧ (0 < len → ∃ b off, a = some ⟨b, off, none⟩ ∧ b < w.heap.size ∧ ∀ i, i < len → w.cell? ⟨b, off + i, none⟩ = some (.int .u64 (L.getD i 0)))
theorem Nums.below {w w' : World} {a : Option Addr} {len : Nat} {L : List Int} (h : Nums w a len L) (hb : Below w.heap.size w w') : Nums w' a len L := by
  refine ⟨h.1, h.2.1, fun hp => ?_⟩
  obtain ⟨b, off, e, hlt, hc⟩ := h.2.2 hp
  exact ⟨b, off, e, Nat.lt_of_lt_of_le hlt hb.size, fun i hi => (hb.cell hlt).trans (hc i hi)⟩
def sumTo (L : List Int) : Nat → Int
  | 0 => 0
  | k + 1 => sumTo L k + L.getD k 0
theorem sumTo_mono (L : List Int) (hL : ∀ i, 0 ≤ L.getD i 0 ∧ L.getD i 0 ≤ 18446744073709551615) (k n : Nat) (h : k ≤ n) : sumTo L k ≤ sumTo L n := by
  induction n with
  | zero => rw [Nat.le_zero.1 h]; exact Int.le_refl _
  | succ n ih =>
    by_cases e : k = n + 1
    · rw [e]; exact Int.le_refl _
    · have := ih (by omega)
      have := hL n
      rw [sumTo]; omega
theorem sumTo_nonneg (L : List Int) (hL : ∀ i, 0 ≤ L.getD i 0 ∧ L.getD i 0 ≤ 18446744073709551615) (k : Nat) : 0 ≤ sumTo L k := sumTo_mono L hL 0 k (Nat.zero_le _)
theorem wrap_over (s z : Int) (hs : 0 ≤ s ∧ s ≤ 18446744073709551615) (hz : 0 ≤ z ∧ z ≤ 18446744073709551615) (h : 18446744073709551615 < s + z) : IntKind.u64.wrap (s + z) < z := by
  rw [IntKind.wrap_u64]; omega
end Go.Proofs.YtipdaaajnbjnjaaDoor.Plain
namespace Go.Proofs.YtipdaaajnbjnjaaDoor.Plain
set_option maxRecDepth 100000
set_option linter.unusedVariables false
open Go.RowKit
theorem own_later {w w' : World} {base n : Nat} {v : Value} {xs : List Value} (h : w.ownsRow base 5 1 v n xs) (hb : Below w.heap.size w w') : w'.ownsRow base 5 1 v n xs := by
  refine ⟨h.1, ?_⟩
  rcases h.2 with h3 | ⟨g, cap', cur, h3, hb', hh, r⟩
  · exact .inl h3
  · exact .inr ⟨g, cap', cur, h3, hb', by rw [hb.block g (Array.getElem?_eq_some_iff.1 hh).1]; exact hh, r⟩
theorem own_form {w : World} {base n : Nat} {v : Value} {xs : List Value} (h : w.ownsRow base 5 1 v n xs) : ∃ a cap, v = .slice a n cap := by
  rcases h.2 with ⟨rfl, rfl⟩ | ⟨g, cap', cur, rfl, _⟩
  · exact ⟨_, _, rfl⟩
  · exact ⟨_, _, rfl⟩
theorem own_bytes {w : World} {base n cap : Nat} {a : Option Addr} {L : List Int} (h : w.ownsRow base 5 1 (.slice a n cap) n (L.map (Value.int .u8))) (hL : ∀ i, 0 ≤ L.getD i 0 ∧ L.getD i 0 ≤ 255) : Bytes w a n L := by
  have hn : L.length = n := by simpa using h.1
  refine ⟨hn, hL, fun hp => ?_⟩
  rcases h.2 with ⟨_, h3⟩ | ⟨g, cap', cur, h3, _, hh, _, _, _, _⟩
  · omega
  · simp only [Value.slice.injEq, true_and] at h3
    obtain ⟨rfl, rfl⟩ := h3
    refine ⟨g, 0, rfl, (Array.getElem?_eq_some_iff.1 hh).1, fun i hi => ?_⟩
    rw [Nat.zero_add, h.cellAt i (by omega)]
    have hi' : i < L.length := by rw [hn]; exact hi
    simp [hi']
theorem Bytes.news {w : World} {ad : Addr} {len : Nat} {L : List Int} (h : Bytes w (some ad) len L) : ∀ j u, (L.map (Value.int .u8))[j]? = some u → w.cell? (ad.add j) = some u := by
  intro j u hj
  have hlt : j < L.length := by simpa using (List.getElem?_eq_some_iff.1 hj).1
  obtain ⟨ad', he, hc⟩ := h.src (by rw [← h.1]; omega)
  simp only [Option.some.injEq] at he
  subst he
  exact hc j u hj
theorem own_block_le {w : World} {base n : Nat} {v : Value} {xs : List Value} (h : w.ownsRow base 5 1 v n xs) : ∀ k, v.ownBlock = some k → base ≤ k := fun k hk => (h.lt k hk).1
end Go.Proofs.YtipdaaajnbjnjaaDoor.Plain
