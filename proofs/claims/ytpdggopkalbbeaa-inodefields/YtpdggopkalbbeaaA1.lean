/-
  Words and bytes in arrays, and worlds in which one block alone has turned; nothing of the program is said here.
-/
import Derived.Test.YtpdggopkalbbeaaU3
import Derived.Laws.BitsAllLaws
import Derived.Deep.MidRow
namespace Go.Proofs.Ytpdggopkalbbeaa.Plain
set_option linter.unusedVariables false
open Go.RowKit

/-- A fact put away, so that no search looks into it. -/
structure Box (p : Prop) : Prop where
  out : p
/-- A word is one of 32 bits. -/
def W32 (x : Int) : Prop := 0 ≤ x ∧ x < 4294967296
theorem W32.wrap (x : Int) : W32 (x % 4294967296) := by unfold W32; omega
theorem W32.bits (op : BinOp) (x y : Int) : W32 (bits op .u32 x y) := by
  unfold Go.bits
  rw [IntKind.wrap_u32]
  exact W32.wrap _
/-- Bytes, each of 0 to 255. -/
def Byt (B : List Int) : Prop := ∀ i, 0 ≤ B.getD i 0 ∧ B.getD i 0 ≤ 255
/-- Words, each of 32 bits. -/
def Wrd (L : List Int) : Prop := ∀ i, W32 (L.getD i 0)
def u8s (B : List Int) : Array Value := (B.map (Value.int .u8)).toArray
def u32s (L : List Int) : Array Value := (L.map (Value.int .u32)).toArray
def i64s (L : List Int) : Array Value := (L.map (Value.int .i64)).toArray
theorem size_u32s (L : List Int) : (u32s L).size = L.length := by simp [u32s]
theorem all_u32s (L : List Int) : (u32s L).all (·.oneCell') = true := by simp [u32s, Value.oneCell']
theorem size_u8s (L : List Int) : (u8s L).size = L.length := by simp [u8s]
theorem all_u8s (L : List Int) : (u8s L).all (·.oneCell') = true := by simp [u8s, Value.oneCell']
theorem size_i64s (L : List Int) : (i64s L).size = L.length := by simp [i64s]
theorem all_i64s (L : List Int) : (i64s L).all (·.oneCell') = true := by simp [i64s, Value.oneCell']
theorem u32s_set (L : List Int) (k : Nat) (v : Int) : (u32s L).setIfInBounds k (.int .u32 v) = u32s (L.set k v) := by simp [u32s, List.map_set]
theorem u8s_set (L : List Int) (k : Nat) (v : Int) : (u8s L).setIfInBounds k (.int .u8 v) = u8s (L.set k v) := by simp [u8s, List.map_set]
theorem getD_app_left (X Y : List Int) (i : Nat) (h : i < X.length) : (X ++ Y).getD i 0 = X.getD i 0 := by
  simp [List.getD, List.getElem?_append_left h]
theorem getD_app (M c : List Int) (i : Nat) : (M ++ c).getD i 0 = if i < M.length then M.getD i 0 else c.getD (i - M.length) 0 := by
  by_cases h : i < M.length
  · rw [if_pos h, getD_app_left _ _ _ h]
  · rw [if_neg h]
    simp only [List.getD, List.getElem?_append_right (Nat.le_of_not_lt h)]
theorem getD_high0 (L : List Int) (i : Nat) (h : L.length ≤ i) : L.getD i 0 = 0 := by simp only [List.getD, List.getElem?_eq_none h, Option.getD_none]
theorem eq_getD (A B : List Int) (n : Nat) (hA : A.length = n) (hB : B.length = n) (h : ∀ i, i < n → A.getD i 0 = B.getD i 0) : A = B := by
  apply List.ext_getElem (by omega)
  intro i h1 h2
  have := h i (by omega)
  simpa [List.getD, h1, h2] using this
theorem byt_nil : Byt [] := by intro i; simp
theorem byt_cons (v : Int) (L : List Int) (hv : 0 ≤ v ∧ v ≤ 255) (h : Byt L) : Byt (v :: L) := by
  intro i
  cases i with
  | zero => simpa using hv
  | succ i => simpa using h i
theorem byt_app (A B : List Int) (hA : Byt A) (hB : Byt B) : Byt (A ++ B) := by
  intro i
  rw [getD_app]
  split
  · exact hA i
  · exact hB _
theorem byt_zeros (n : Nat) : Byt (List.replicate n 0) := by
  intro i
  simp only [List.getD, List.getElem?_replicate]
  split <;> simp
theorem byt_take (L : List Int) (n : Nat) (h : Byt L) : Byt (L.take n) := by
  intro i
  by_cases hi : i < n
  · have := h i
    simpa [List.getD, List.getElem?_take, hi] using this
  · rw [getD_high0 _ _ (by simp; omega)]; omega
theorem byt_drop (L : List Int) (n : Nat) (h : Byt L) : Byt (L.drop n) := by
  intro i
  have := h (n + i)
  simpa [List.getD, List.getElem?_drop] using this
theorem wrd_set (L : List Int) (k : Nat) (v : Int) (h : Wrd L) (hv : W32 v) : Wrd (L.set k v) := by
  intro i
  simp only [List.getD]
  rw [List.getElem?_set]
  split
  · split
    · exact hv
    · simp [W32]
  · exact h i
theorem wrd_nil : Wrd [] := by intro i; simp [W32]
theorem wrd_app (A B : List Int) (hA : Wrd A) (hB : Wrd B) : Wrd (A ++ B) := by
  intro i
  rw [getD_app]
  split
  · exact hA i
  · exact hB _
theorem wrd_one (v : Int) (hv : W32 v) : Wrd [v] := by
  intro i
  cases i with
  | zero => simpa using hv
  | succ i => simp [W32]

/-- A row of words, filled up by noughts to n. -/
def fil (X : List Int) (n : Nat) : Array Value := u32s (X ++ List.replicate (n - X.length) 0)
theorem size_fil (X : List Int) (n : Nat) (h : X.length ≤ n) : (fil X n).size = n := by simp [fil, u32s]; omega
theorem fil_set (X : List Int) (n : Nat) (v : Int) (h : X.length < n) : (fil X n).setIfInBounds X.length (.int .u32 v) = fil (X ++ [v]) n := by
  obtain ⟨m, hm⟩ : ∃ m, n - X.length = m + 1 := ⟨n - X.length - 1, by omega⟩
  have hm' : n - (X ++ [v]).length = m := by simp; omega
  unfold fil u32s
  rw [hm, hm']
  simp [List.replicate_succ]
theorem fil_full (X : List Int) (n : Nat) (h : X.length = n) : fil X n = u32s X := by simp [fil, h]
theorem fil_some (X : List Int) (n i : Nat) (h : i < n) (hX : X.length ≤ n) : ∃ v, (fil X n)[i]? = some v := by
  have : i < (fil X n).size := by rw [size_fil X n hX]; exact h
  exact ⟨_, Array.getElem?_eq_getElem this⟩
/-- A row of bytes, filled up by noughts to n. -/
def fil8 (X : List Int) (n : Nat) : Array Value := u8s (X ++ List.replicate (n - X.length) 0)
theorem size_fil8 (X : List Int) (n : Nat) (h : X.length ≤ n) : (fil8 X n).size = n := by simp [fil8, u8s]; omega
theorem fil8_set (X : List Int) (n : Nat) (v : Int) (h : X.length < n) : (fil8 X n).setIfInBounds X.length (.int .u8 v) = fil8 (X ++ [v]) n := by
  obtain ⟨m, hm⟩ : ∃ m, n - X.length = m + 1 := ⟨n - X.length - 1, by omega⟩
  have hm' : n - (X ++ [v]).length = m := by simp; omega
  unfold fil8 u8s
  rw [hm, hm']
  simp [List.replicate_succ]
theorem fil8_full (X : List Int) (n : Nat) (h : X.length = n) : fil8 X n = u8s X := by simp [fil8, h]
theorem fil8_some (X : List Int) (n i : Nat) (h : i < n) (hX : X.length ≤ n) : ∃ v, (fil8 X n)[i]? = some v := by
  have : i < (fil8 X n).size := by rw [size_fil8 X n hX]; exact h
  exact ⟨_, Array.getElem?_eq_getElem this⟩
theorem fil8_splice (X Y : List Int) (n : Nat) (h : X.length + Y.length ≤ n) : splice (fil8 X n).toList X.length (Y.map (Value.int .u8)) = (fil8 (X ++ Y) n).toList := by
  have e : n - X.length = Y.length + (n - X.length - Y.length) := by omega
  simp only [fil8, u8s, splice, List.map_append, List.length_append, List.length_map]
  simp only [List.map_replicate]
  rw [List.take_append_of_le_length (by simp), List.take_of_length_le (by simp), List.drop_append, List.drop_of_length_le (by simp)]
  simp only [List.length_map, List.drop_replicate, List.nil_append, List.append_assoc]
  rw [show n - X.length - (X.length + Y.length - X.length) = n - (X.length + Y.length) by omega]
theorem row_cell (w : World) (g i : Nat) (B : List Int) (t : TypeId) (fr : Nat × Nat) (hg : w.heap[g]? = some (.cells (u8s B) t fr)) (h : i < B.length) : w.cell? ⟨g, i, none⟩ = some (.int .u8 (B.getD i 0)) := by
  rw [cell_of_row _ _ _ _ _ _ hg]; simp [u8s, h]
theorem u32_cell (w : World) (g i : Nat) (X : List Int) (t : TypeId) (fr : Nat × Nat) (hg : w.heap[g]? = some (.cells (u32s X) t fr)) (h : i < X.length) : w.cell? ⟨g, i, none⟩ = some (.int .u32 (X.getD i 0)) := by
  rw [cell_of_row _ _ _ _ _ _ hg]; simp [u32s, h]
theorem i64_cell (w : World) (g i : Nat) (X : List Int) (t : TypeId) (fr : Nat × Nat) (hg : w.heap[g]? = some (.cells (i64s X) t fr)) (h : i < X.length) : w.cell? ⟨g, i, none⟩ = some (.int .i64 (X.getD i 0)) := by
  rw [cell_of_row _ _ _ _ _ _ hg]; simp [i64s, h]
theorem al_at {w : World} {o : Obj} {S : Nat} (h : w.heap.size = S) : (w.alloc o).heap[S]? = some o := by rw [← h]; exact heap_alloc_new w o
theorem al_old {w : World} {o x : Obj} {j : Nat} (h : w.heap[j]? = some x) : (w.alloc o).heap[j]? = some x := by
  rw [Below.heap_alloc w o j (Array.getElem?_eq_some_iff.1 h).1]; exact h
theorem bytes_of_row {w : World} {g : Nat} {X : List Int} {t : TypeId} {fr : Nat × Nat} (hX : Byt X) (hg : w.heap[g]? = some (.cells (u8s X) t fr)) : Bytes w (some ⟨g, 0, none⟩) X.length X :=
  ⟨rfl, hX, fun _ => ⟨g, 0, rfl, (Array.getElem?_eq_some_iff.1 hg).1, fun i hi => by rw [Nat.zero_add]; exact row_cell w g i X t fr hg hi⟩⟩
theorem below_to {w w1 w2 : World} (h : Below w.heap.size w w1) (k : Below w1.heap.size w1 w2) : Below w.heap.size w w2 := h.trans (k.mono h.size)
theorem below_set {S g i : Nat} {w w' : World} (h : Below S w w') (hg : S ≤ g) (v : Value) : Below S w (w'.setCell ⟨g, i, none⟩ v) :=
  ⟨h.os, h.tape, h.output, by simpa using h.size, fun k hk => by rw [heap_setCell_other w' ⟨g, i, none⟩ k _ (fun e => by simp at e; omega)]; exact h.block k hk⟩
theorem named (L : List Int) : ∃ X, Box (L = X) := ⟨L, ⟨rfl⟩⟩

/-- All that was there is as it was, but for block G. -/
structure But (G : Nat) (w w' : World) : Prop where
  os : w'.os = w.os
  tape : w'.tape = w.tape
  output : w'.output = w.output
  size : w.heap.size ≤ w'.heap.size
  block : ∀ k, k < w.heap.size → k ≠ G → w'.heap[k]? = w.heap[k]?
theorem But.refl (G : Nat) (w : World) : But G w w := ⟨rfl, rfl, rfl, Nat.le_refl _, fun _ _ _ => rfl⟩
theorem But.trans {G : Nat} {a b c : World} (h : But G a b) (k : But G b c) : But G a c :=
  ⟨k.os.trans h.os, k.tape.trans h.tape, k.output.trans h.output, Nat.le_trans h.size k.size, fun i hi hn => (k.block i (Nat.lt_of_lt_of_le hi h.size) hn).trans (h.block i hi hn)⟩
theorem But.of_below {G : Nat} {w w' : World} (h : Below w.heap.size w w') : But G w w' := ⟨h.os, h.tape, h.output, h.size, fun k hk _ => h.block k hk⟩
theorem But.drew {G : Nat} {w w' : World} (h : But G w w') : But G w w'.drew := ⟨h.os, h.tape, h.output, h.size, h.block⟩
theorem But.setCell {G : Nat} {w w' : World} (h : But G w w') (o : Nat) (v : Value) : But G w (w'.setCell ⟨G, o, none⟩ v) :=
  ⟨h.os, h.tape, h.output, by simpa using h.size, fun k hk hn => by rw [heap_setCell_other w' ⟨G, o, none⟩ k _ (fun e => hn e)]; exact h.block k hk hn⟩
theorem But.below {G B : Nat} {w w' : World} (h : But G w w') (hB : B ≤ G) (hB2 : B ≤ w.heap.size) : Below B w w' := ⟨h.os, h.tape, h.output, h.size, fun k hk => h.block k (by omega) (by omega)⟩

theorem run_index_row {P : Program} {t el : TypeId} {n : Nat} {d : TypeDesc} {cs : Array Value} {v : Value} (hu : P.underlying t = some (.array n el)) (he : P.underlying el = some d) (hd : d.isRow = false) (hs : (P.info? el).map (·.size) = some 1) (k : Nat) (hk : k < n) (hv : cs[k]? = some v) (w : World) :
    (Instr.index t (.agg cs) (.int .i64 k)).run P w = .ok v w := by
  cases hq : P.info? el with
  | none => simp [hq] at hs
  | some i =>
    have hs1 : i.size = 1 := by simpa [hq] using hs
    have hagg : (isAgg el).run P w = .ok false w := by
      unfold isAgg
      rw [Sem.run_bind, run_underlying he w]
      cases d <;> simp_all [TypeDesc.isRow]
    have hc : (0 : Int) ≤ (k : Int) ∧ (k : Int) < (n : Int) := by omega
    simp [Instr.index, asIntOf, Sem.run_bind, run_underlying hu, hc, sizeOf, typeInfo, hq, hs1, part, hagg, hv]
    intro hc2; omega
end Go.Proofs.Ytpdggopkalbbeaa.Plain
