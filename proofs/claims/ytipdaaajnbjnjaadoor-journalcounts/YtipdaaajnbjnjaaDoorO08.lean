/-
  What stands behind the bytes, and the digest out of the words; nothing of the program is said here.
-/
import Derived.Test.YtipdaaajnbjnjaaDoorO06
namespace Go.Proofs.YtipdaaajnbjnjaaDoor.Dig.Plain
set_option maxRecDepth 100000
set_option linter.unusedVariables false
open Go.RowKit
/-- A fact put away, so that no search looks into it. -/
structure Box (p : Prop) : Prop where
  out : p
def byteAt (x : Int) (i : Nat) : Int := x / 2 ^ (8 * i) % 256
/-- The lowest k bytes of a number, the highest of them first. -/
def lo (x : Int) : Nat → List Int
  | 0 => []
  | k + 1 => byteAt x k :: lo x k
def tailK (z : Nat) (x : Int) (k : Nat) : List Int := (128 :: List.replicate (z + 8 - k) 0) ++ lo x k
def zs (m : Nat) : Nat := (119 - m % 64) % 64
def padT (M : List Int) : List Int := tailK (zs M.length) (M.length * 8) 8
theorem length_lo (x : Int) (k : Nat) : (lo x k).length = k := by
  induction k with
  | zero => rfl
  | succ k ih => simp [lo, ih]
theorem length_tailK (z : Nat) (x : Int) (k : Nat) (h : k ≤ 8) : (tailK z x k).length = z + 9 := by
  simp [tailK, length_lo]; omega
theorem tailK_set (z : Nat) (x : Int) (k : Nat) (h : k < 8) : (tailK z x k).set (z + 8 - k) (byteAt x k) = tailK z x (k + 1) := by
  obtain ⟨q, hq⟩ : ∃ q, z + 8 - k = q + 1 := ⟨z + 7 - k, by omega⟩
  have hq' : z + 8 - (k + 1) = q := by omega
  unfold tailK
  rw [hq, hq', lo, List.replicate_succ']
  simp
theorem byt_nil : Byt [] := by intro i; simp
theorem byt_cons (v : Int) (L : List Int) (hv : 0 ≤ v ∧ v ≤ 255) (h : Byt L) : Byt (v :: L) := by
  intro i
  cases i with
  | zero => simpa using hv
  | succ i => simpa using h i
theorem byt_app (A B : List Int) (hA : Byt A) (hB : Byt B) : Byt (A ++ B) := by
  intro i
  rw [getD_app]
  split
  · exact hA i
  · exact hB _
theorem byt_zeros (n : Nat) : Byt (List.replicate n 0) := by
  intro i
  simp only [List.getD, List.getElem?_replicate]
  split <;> simp
theorem byteAt_bd (x : Int) (i : Nat) : 0 ≤ byteAt x i ∧ byteAt x i ≤ 255 := by unfold byteAt; omega
theorem byt_lo (x : Int) (k : Nat) : Byt (lo x k) := by
  induction k with
  | zero => exact byt_nil
  | succ k ih => exact byt_cons _ _ (byteAt_bd x k) ih
theorem byt_tailK (z : Nat) (x : Int) (k : Nat) : Byt (tailK z x k) := byt_app _ _ (byt_cons _ _ (by omega) (byt_zeros _)) (byt_lo _ _)
theorem length_padT (M : List Int) : (padT M).length = zs M.length + 9 := length_tailK _ _ _ (Nat.le_refl _)
/-- Byte i of a digest's words. -/
def dgb (ws : List Int) (i : Nat) : Int := ws.getD (i / 4) 0 / 2 ^ (24 - 8 * (i % 4)) % 256
def dgl (ws : List Int) : Nat → List Int
  | 0 => []
  | k + 1 => dgl ws k ++ [dgb ws k]
theorem length_dgl (ws : List Int) (k : Nat) : (dgl ws k).length = k := by
  induction k with
  | zero => rfl
  | succ k ih => simp [dgl, ih]
theorem dgb_bd (ws : List Int) (i : Nat) : 0 ≤ dgb ws i ∧ dgb ws i ≤ 255 := by unfold dgb; omega
theorem byt_dgl (ws : List Int) (k : Nat) : Byt (dgl ws k) := by
  induction k with
  | zero => exact byt_nil
  | succ k ih => exact byt_app _ _ ih (byt_cons _ _ (dgb_bd ws k) byt_nil)
/-- The digest of bytes. -/
def sha (M : List Int) : List Int := dgl (blk (M ++ padT M) ((M.length + zs M.length + 9) / 64)) 32
theorem length_sha (M : List Int) : (sha M).length = 32 := length_dgl _ _
theorem byt_sha (M : List Int) : Byt (sha M) := byt_dgl _ _
/-- A row of bytes, filled up by noughts to n. -/
def fil8 (X : List Int) (n : Nat) : Array Value := u8s (X ++ List.replicate (n - X.length) 0)
theorem size_fil8 (X : List Int) (n : Nat) (h : X.length ≤ n) : (fil8 X n).size = n := by simp [fil8, u8s]; omega
theorem fil8_set (X : List Int) (n : Nat) (v : Int) (h : X.length < n) : (fil8 X n).setIfInBounds X.length (.int .u8 v) = fil8 (X ++ [v]) n := by
  obtain ⟨m, hm⟩ : ∃ m, n - X.length = m + 1 := ⟨n - X.length - 1, by omega⟩
  have hm' : n - (X ++ [v]).length = m := by simp; omega
  unfold fil8 u8s
  rw [hm, hm']
  simp [List.replicate_succ]
theorem fil8_full (X : List Int) (n : Nat) (h : X.length = n) : fil8 X n = u8s X := by simp [fil8, h]
theorem fil8_some (X : List Int) (n i : Nat) (h : i < n) (hX : X.length ≤ n) : ∃ v, (fil8 X n)[i]? = some v := by
  have : i < (fil8 X n).size := by rw [size_fil8 X n hX]; exact h
  exact ⟨_, Array.getElem?_eq_getElem this⟩
theorem u8s_set (L : List Int) (k : Nat) (v : Int) : (u8s L).setIfInBounds k (.int .u8 v) = u8s (L.set k v) := by simp [u8s, List.map_set]
theorem made_u8s {w' : World} {base g n : Nat} (h : w'.ownsRow base 5 1 (.slice (some ⟨g, 0, none⟩) n n) n (madeCells (Value.int .u8 0).cells (n * 1)).toList) :
    w'.heap[g]? = some (.cells (u8s (List.replicate n 0)) 5 (0, 0)) := by
  obtain ⟨h1, h2⟩ := h
  rcases h2 with ⟨h3, _⟩ | ⟨g', cap, cur, h3, _, hh, _, _, hs, ht⟩
  · simp at h3
  · simp only [Value.slice.injEq, Option.some.injEq, Addr.mk.injEq, and_true, true_and] at h3
    obtain ⟨rfl, rfl⟩ := h3
    have e : (Value.int .u8 0).cells = #[Value.int .u8 0] := rfl
    rw [e, toList_madeCells_one, Nat.mul_one, List.take_of_length_le (by simp at hs ⊢; omega)] at ht
    have e2 : cur = u8s (List.replicate n 0) := by
      rw [← Array.toList_inj, ht]; simp [u8s]
    rw [hh, e2]
theorem bytes_of_row {w : World} {g : Nat} {X : List Int} {t : TypeId} {fr : Nat × Nat} (hX : Byt X) (hg : w.heap[g]? = some (.cells (u8s X) t fr)) : Bytes w (some ⟨g, 0, none⟩) X.length X :=
  ⟨rfl, hX, fun _ => ⟨g, 0, rfl, (Array.getElem?_eq_some_iff.1 hg).1, fun i hi => by rw [Nat.zero_add]; exact row_cell w g i X t fr hg hi⟩⟩
end Go.Proofs.YtipdaaajnbjnjaaDoor.Dig.Plain
