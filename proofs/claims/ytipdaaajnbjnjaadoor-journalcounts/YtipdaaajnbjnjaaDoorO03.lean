/-
  The words that a part brings into the rounds, as plain rows of numbers; nothing of the program is said here.
-/
import Derived.Test.YtipdaaajnbjnjaaDoorO02
namespace Go.Proofs.YtipdaaajnbjnjaaDoor.Dig.Plain
set_option maxRecDepth 100000
set_option linter.unusedVariables false
open Go.RowKit
/-- Bytes, each of 0 to 255. -/
def Byt (B : List Int) : Prop := ∀ i, 0 ≤ B.getD i 0 ∧ B.getD i 0 ≤ 255
/-- Words, each of 32 bits. -/
def Wrd (L : List Int) : Prop := ∀ i, W32 (L.getD i 0)
def u8s (B : List Int) : Array Value := (B.map (Value.int .u8)).toArray
def u32s (L : List Int) : Array Value := (L.map (Value.int .u32)).toArray
theorem getD_app_left (X Y : List Int) (i : Nat) (h : i < X.length) : (X ++ Y).getD i 0 = X.getD i 0 := by
  simp [List.getD, List.getElem?_append_left h]
theorem getD_of_lt (X : List Int) (i : Nat) (h : i < X.length) : X[i]? = some (X.getD i 0) := by simp [List.getD, h]
/-- A row of words, filled up by noughts to n. -/
def fil (X : List Int) (n : Nat) : Array Value := u32s (X ++ List.replicate (n - X.length) 0)
theorem size_fil (X : List Int) (n : Nat) (h : X.length ≤ n) : (fil X n).size = n := by simp [fil, u32s]; omega
theorem fil_set (X : List Int) (n : Nat) (v : Int) (h : X.length < n) : (fil X n).setIfInBounds X.length (.int .u32 v) = fil (X ++ [v]) n := by
  obtain ⟨m, hm⟩ : ∃ m, n - X.length = m + 1 := ⟨n - X.length - 1, by omega⟩
  have hm' : n - (X ++ [v]).length = m := by simp; omega
  unfold fil u32s
  rw [hm, hm']
  simp [List.replicate_succ]
theorem fil_get (X : List Int) (n i : Nat) (h : i < X.length) : (fil X n)[i]? = some (.int .u32 (X.getD i 0)) := by
  simp only [fil, u32s, List.getElem?_toArray, List.getElem?_map, List.getElem?_append_left h]
  rw [getD_of_lt X i h]; rfl
theorem fil_full (X : List Int) (n : Nat) (h : X.length = n) : fil X n = u32s X := by simp [fil, h]
theorem fil_some (X : List Int) (n i : Nat) (h : i < n) (hX : X.length ≤ n) : ∃ v, (fil X n)[i]? = some v := by
  have : i < (fil X n).size := by rw [size_fil X n hX]; exact h
  exact ⟨_, Array.getElem?_eq_getElem this⟩
def word (B : List Int) (p t : Nat) : Int := B.getD (p + 4 * t) 0 * 16777216 + B.getD (p + 4 * t + 1) 0 * 65536 + B.getD (p + 4 * t + 2) 0 * 256 + B.getD (p + 4 * t + 3) 0
theorem W32.word (B : List Int) (p t : Nat) (h : Byt B) : W32 (word B p t) := by
  unfold Plain.word W32
  have h1 := h (p + 4 * t)
  have h2 := h (p + 4 * t + 1)
  have h3 := h (p + 4 * t + 2)
  have h4 := h (p + 4 * t + 3)
  omega
theorem or_add (s a b : Nat) (ha : a % 2 ^ s = 0) (hb : b < 2 ^ s) (h1 : a < 4294967296) (h2 : b < 4294967296) : bits .or .u32 (a : Int) (b : Int) = (a : Int) + (b : Int) := by
  rw [u32_or_nat a b h1 h2, nat_join s a b ha hb]; simp
theorem or4 (a b c d : Int) (ha : 0 ≤ a ∧ a ≤ 255) (hb : 0 ≤ b ∧ b ≤ 255) (hc : 0 ≤ c ∧ c ≤ 255) (hd : 0 ≤ d ∧ d ≤ 255) :
    bits .or .u32 (bits .or .u32 (bits .or .u32 (a * 16777216) (b * 65536)) (c * 256)) d = a * 16777216 + b * 65536 + c * 256 + d := by
  obtain ⟨A, rfl⟩ := Int.eq_ofNat_of_zero_le ha.1
  obtain ⟨B, rfl⟩ := Int.eq_ofNat_of_zero_le hb.1
  obtain ⟨C, rfl⟩ := Int.eq_ofNat_of_zero_le hc.1
  obtain ⟨D, rfl⟩ := Int.eq_ofNat_of_zero_le hd.1
  have e1 := or_add 24 (A * 16777216) (B * 65536) (by omega) (by omega) (by omega) (by omega)
  have e2 := or_add 16 (A * 16777216 + B * 65536) (C * 256) (by omega) (by omega) (by omega) (by omega)
  have e3 := or_add 8 (A * 16777216 + B * 65536 + C * 256) D (by omega) (by omega) (by omega) (by omega)
  simp only [Int.natCast_add, Int.natCast_mul, Int.cast_ofNat_Int] at e1 e2 e3
  rw [e1, e2, e3]
def wl0 (B : List Int) (p : Nat) : Nat → List Int
  | 0 => []
  | k + 1 => wl0 B p k ++ [word B p k]
def sig0 (x : Int) : Int := bits .xor .u32 (bits .xor .u32 (rotr x 7) (rotr x 18)) (x / 8)
def sig1 (x : Int) : Int := bits .xor .u32 (bits .xor .u32 (rotr x 17) (rotr x 19)) (x / 1024)
def nextW (L : List Int) (j : Nat) : Int := (L.getD j 0 + sig0 (L.getD (j + 1) 0) + L.getD (j + 9) 0 + sig1 (L.getD (j + 14) 0)) % 4294967296
def wlx (B : List Int) (p : Nat) : Nat → List Int
  | 0 => wl0 B p 16
  | j + 1 => wlx B p j ++ [nextW (wlx B p j) j]
def sched (B : List Int) (p : Nat) : List Int := wlx B p 48
theorem length_wl0 (B : List Int) (p k : Nat) : (wl0 B p k).length = k := by
  induction k with
  | zero => rfl
  | succ k ih => simp [wl0, ih]
theorem length_wlx (B : List Int) (p j : Nat) : (wlx B p j).length = 16 + j := by
  induction j with
  | zero => simp [wlx, length_wl0]
  | succ j ih => simp [wlx, ih]; omega
theorem length_sched (B : List Int) (p : Nat) : (sched B p).length = 64 := length_wlx B p 48
theorem wrd_snoc (L : List Int) (v : Int) (h : Wrd L) (hv : W32 v) : Wrd (L ++ [v]) := by
  intro i
  by_cases hi : i < L.length
  · rw [getD_app_left _ _ _ hi]; exact h i
  · simp only [List.getD, List.getElem?_append_right (Nat.le_of_not_lt hi)]
    by_cases e : i - L.length = 0
    · rw [e]; simpa using hv
    · rw [List.getElem?_eq_none (by simp; omega)]; simp [W32]
theorem wrd_nil : Wrd [] := by intro i; simp [W32]
theorem wrd_wl0 (B : List Int) (p k : Nat) (h : Byt B) : Wrd (wl0 B p k) := by
  induction k with
  | zero => exact wrd_nil
  | succ k ih => exact wrd_snoc _ _ ih (W32.word B p k h)
theorem wrd_wlx (B : List Int) (p j : Nat) (h : Byt B) : Wrd (wlx B p j) := by
  induction j with
  | zero => exact wrd_wl0 B p 16 h
  | succ j ih => exact wrd_snoc _ _ ih (W32.wrap _)
theorem wrd_sched (B : List Int) (p : Nat) (h : Byt B) : Wrd (sched B p) := wrd_wlx B p 48 h
theorem wl0_congr (B C : List Int) (p q : Nat) (h : ∀ i, i < 64 → B.getD (p + i) 0 = C.getD (q + i) 0) (k : Nat) (hk : k ≤ 16) : wl0 B p k = wl0 C q k := by
  induction k with
  | zero => rfl
  | succ k ih =>
    rw [wl0, wl0, ih (by omega)]
    have h1 := h (4 * k) (by omega)
    have h2 := h (4 * k + 1) (by omega)
    have h3 := h (4 * k + 2) (by omega)
    have h4 := h (4 * k + 3) (by omega)
    simp only [← Nat.add_assoc] at h2 h3 h4
    simp only [word, h1, h2, h3, h4]
theorem sched_congr (B C : List Int) (p q : Nat) (h : ∀ i, i < 64 → B.getD (p + i) 0 = C.getD (q + i) 0) : sched B p = sched C q := by
  have key : ∀ j, wlx B p j = wlx C q j := by
    intro j
    induction j with
    | zero => exact wl0_congr B C p q h 16 (by omega)
    | succ j ih => rw [wlx, wlx, ih]
  exact key 48
theorem row_cell (w : World) (g i : Nat) (B : List Int) (t : TypeId) (fr : Nat × Nat) (hg : w.heap[g]? = some (.cells (u8s B) t fr)) (h : i < B.length) : w.cell? ⟨g, i, none⟩ = some (.int .u8 (B.getD i 0)) := by
  rw [cell_of_row _ _ _ _ _ _ hg]; simp [u8s, h]
theorem fil_cell (w : World) (g i n : Nat) (X : List Int) (t : TypeId) (fr : Nat × Nat) (hg : w.heap[g]? = some (.cells (fil X n) t fr)) (h : i < X.length) : w.cell? ⟨g, i, none⟩ = some (.int .u32 (X.getD i 0)) := by
  rw [cell_of_row _ _ _ _ _ _ hg]; exact fil_get X n i h
theorem u32_cell (w : World) (g i : Nat) (X : List Int) (t : TypeId) (fr : Nat × Nat) (hg : w.heap[g]? = some (.cells (u32s X) t fr)) (h : i < X.length) : w.cell? ⟨g, i, none⟩ = some (.int .u32 (X.getD i 0)) := by
  rw [cell_of_row _ _ _ _ _ _ hg]; simp [u32s, h]
/-- A store at the first nought of a row that is being filled. -/
theorem fil_step (w wr : World) (g n S : Nat) (X : List Int) (v : Int) (h : X.length < n) (hS : S ≤ g) (hg : wr.heap[g]? = some (.cells (fil X n) 166 (0, 0))) (hb : Below S w wr) :
    (wr.setCell ⟨g, X.length, none⟩ (.int .u32 v)).heap[g]? = some (.cells (fil (X ++ [v]) n) 166 (0, 0)) ∧ Below S w (wr.setCell ⟨g, X.length, none⟩ (.int .u32 v)) ∧ ∀ j, j ≠ g → (wr.setCell ⟨g, X.length, none⟩ (.int .u32 v)).heap[j]? = wr.heap[j]? := by
  refine ⟨?_, ⟨hb.os, hb.tape, hb.output, by simpa using hb.size, fun k hk => ?_⟩, fun j hj => heap_setCell_other wr ⟨g, X.length, none⟩ j _ (fun e => hj e)⟩
  · rw [heap_setCell_same wr g X.length _ 166 _ hg, fil_set X n v h]
  · rw [heap_setCell_other wr ⟨g, X.length, none⟩ k _ (fun e => by simp at e; omega)]
    exact hb.block k hk
theorem al_at {w : World} {o : Obj} {S : Nat} (h : w.heap.size = S) : (w.alloc o).heap[S]? = some o := by rw [← h]; exact heap_alloc_new w o
theorem al_old {w : World} {o x : Obj} {j : Nat} (h : w.heap[j]? = some x) : (w.alloc o).heap[j]? = some x := by
  rw [Below.heap_alloc w o j (Array.getElem?_eq_some_iff.1 h).1]; exact h
end Go.Proofs.YtipdaaajnbjnjaaDoor.Dig.Plain
