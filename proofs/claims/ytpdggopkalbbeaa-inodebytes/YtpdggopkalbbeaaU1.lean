/-
  Plain facts on bytes, rows of cells and numbers that the walks of this seat lean on; nothing of the program is said here.
-/
import Derived.Laws.CopyOwn
import Derived.WalkKit
namespace Go.Proofs.Ytpdggopkalbbeaa.Plain
set_option linter.unusedVariables false
open Go.RowKit

/-- Byte number i of x, the lowest first. -/
def byteAt (x : Int) (i : Nat) : Int := x / 2 ^ (8 * i) % 256
def bytesOf (x : Int) : Nat → List Int
  | 0 => []
  | k + 1 => bytesOf x k ++ [byteAt x k]
def bys (x : Int) (k : Nat) : List Value := (bytesOf x k).map (Value.int .u8)
theorem length_bytesOf (x : Int) (k : Nat) : (bytesOf x k).length = k := by
  induction k with
  | zero => rfl
  | succ k ih => simp [bytesOf, ih]
theorem length_bys (x : Int) (k : Nat) : (bys x k).length = k := by simp [bys, length_bytesOf]
theorem bys_zero (x : Int) : bys x 0 = [] := rfl
theorem bys_succ (x : Int) (k : Nat) : bys x (k + 1) = bys x k ++ [.int .u8 (byteAt x k)] := by simp [bys, bytesOf]
theorem byteAt_bd (x : Int) (i : Nat) : 0 ≤ byteAt x i ∧ byteAt x i ≤ 255 := by unfold byteAt; omega

theorem splice_nil {α : Type} (L : List α) (off : Nat) : splice L off [] = L := by simp [splice]
theorem splice_snoc {α : Type} (L cs : List α) (c : α) (off : Nat) (h : off + cs.length < L.length) : splice L off (cs ++ [c]) = (splice L off cs).set (off + cs.length) c := by
  unfold splice
  have h1 : (L.take off).length = off := by simp; omega
  rw [List.set_append_right _ _ (by omega), h1]
  rw [List.set_append_right _ _ (by omega)]
  have e : off + cs.length - off - cs.length = 0 := by omega
  rw [e]
  have e2 : L.drop (off + cs.length) = L[off + cs.length] :: L.drop (off + cs.length + 1) := by rw [List.drop_eq_getElem_cons]
  rw [e2]
  simp [Nat.add_assoc]

theorem lay_step (w wr : World) (g off k : Nat) (cur : List Value) (x : Int) (h : off + k < cur.length) (hg : wr.heap[g]? = some (.cells (splice cur off (bys x k)).toArray 5 (0, 0))) (hgr : w.grownBy wr (some g)) (hsz : wr.heap.size = w.heap.size) :
    (wr.setCell ⟨g, off + k, none⟩ (.int .u8 (x / 2 ^ (8 * k) % 256))).heap[g]? = some (.cells (splice cur off (bys x (k + 1))).toArray 5 (0, 0)) ∧
      w.grownBy (wr.setCell ⟨g, off + k, none⟩ (.int .u8 (x / 2 ^ (8 * k) % 256))) (some g) ∧ (wr.setCell ⟨g, off + k, none⟩ (.int .u8 (x / 2 ^ (8 * k) % 256))).heap.size = w.heap.size := by
  refine ⟨?_, ?_, by simpa using hsz⟩
  · rw [heap_setCell_same wr g (off + k) _ 5 _ hg, bys_succ, splice_snoc _ _ _ _ (by rw [length_bys]; exact h), length_bys]
    simp [byteAt]
  · refine ⟨hgr.os, hgr.tape, hgr.output, by rw [← hsz]; simp, fun j hj hne => ?_⟩
    rw [heap_setCell_other wr ⟨g, off + k, none⟩ j _ (fun e => hne (by simp [e]))]
    exact hgr.block j hj hne
theorem cell_row (w : World) (g j : Nat) (cur : List Value) (e : TypeId) (hg : w.heap[g]? = some (.cells cur.toArray e (0, 0))) (h : j < cur.length) : ∃ v, w.cell? ⟨g, j, none⟩ = some v :=
  ⟨cur[j], by rw [cell_of_row w g j _ e (0, 0) hg]; simp [h]⟩

/-- The bytes L stand, one behind the other, where a slice's address says. -/
def Bytes (w : World) (a : Option Addr) (len : Nat) (L : List Int) : Prop :=
  L.length = len ∧ (∀ i, 0 ≤ L.getD i 0 ∧ L.getD i 0 ≤ 255) ∧ (0 < len → ∃ b off, a = some ⟨b, off, none⟩ ∧ b < w.heap.size ∧ ∀ i, i < len → w.cell? ⟨b, off + i, none⟩ = some (.int .u8 (L.getD i 0)))
theorem Bytes.below {w w' : World} {a : Option Addr} {len : Nat} {L : List Int} (h : Bytes w a len L) (hb : Below w.heap.size w w') : Bytes w' a len L := by
  refine ⟨h.1, h.2.1, fun hp => ?_⟩
  obtain ⟨b, off, e, hlt, hc⟩ := h.2.2 hp
  exact ⟨b, off, e, Nat.lt_of_lt_of_le hlt hb.size, fun i hi => (hb.cell hlt).trans (hc i hi)⟩

/-- The number of the first k bytes from a place on, the lowest first. -/
def num (L : List Int) (p : Nat) : Nat → Int
  | 0 => 0
  | k + 1 => num L p k + L.getD (p + k) 0 * 2 ^ (8 * k)
theorem num_bd (L : List Int) (p : Nat) (hL : ∀ i, 0 ≤ L.getD i 0 ∧ L.getD i 0 ≤ 255) (k : Nat) : 0 ≤ num L p k ∧ num L p k < 2 ^ (8 * k) := by
  induction k with
  | zero => simp [num]
  | succ k ih =>
    have h := hL (p + k)
    have e : (2 : Int) ^ (8 * (k + 1)) = 256 * 2 ^ (8 * k) := by rw [show 8 * (k + 1) = 8 * k + 8 by omega, Int.pow_add]; omega
    have hp : (0 : Int) < 2 ^ (8 * k) := Int.pow_pos (by omega)
    rw [num, e]
    generalize L.getD (p + k) 0 = z at h ⊢
    have h1 : 0 ≤ z * 2 ^ (8 * k) := Int.mul_nonneg h.1 (by omega)
    have h2 : z * 2 ^ (8 * k) ≤ 255 * 2 ^ (8 * k) := Int.mul_le_mul_of_nonneg_right h.2 (by omega)
    omega

theorem or_step (k : Nat) (hk : k < 8) (t z : Int) (h : 0 ≤ t ∧ t < 2 ^ (8 * k)) (hz : 0 ≤ z ∧ z ≤ 255) : bits .or .u64 t (IntKind.u64.wrap (z * 2 ^ (8 * k))) = t + z * 2 ^ (8 * k) := by
  obtain ⟨T, rfl⟩ := Int.eq_ofNat_of_zero_le h.1
  obtain ⟨Z, rfl⟩ := Int.eq_ofNat_of_zero_le hz.1
  have hp : (Z : Int) * 2 ^ (8 * k) = ((Z * 2 ^ (8 * k) : Nat) : Int) := by simp
  have hT : T < 2 ^ (8 * k) := by
    have := h.2
    exact_mod_cast this
  have h1 : Z * 2 ^ (8 * k) ≤ 255 * 2 ^ 56 := Nat.mul_le_mul (by omega) (Nat.pow_le_pow_right (by omega) (by omega))
  have h2 : 2 ^ (8 * k) ≤ 2 ^ 56 := Nat.pow_le_pow_right (by omega) (by omega)
  rw [hp, IntKind.wrap_u64]
  have hN : Z * 2 ^ (8 * k) < 18446744073709551616 := by omega
  have hM := nat_join (8 * k) (Z * 2 ^ (8 * k)) T (Nat.mul_mod_left _ _) hT
  generalize Z * 2 ^ (8 * k) = N at *
  rw [Int.emod_eq_of_lt (by omega) (by omega), u64_or_nat T N (by omega) hN, Nat.or_comm, hM]
  omega

end Go.Proofs.Ytpdggopkalbbeaa.Plain
