/-
  A digest under way as a row of cells: what it holds behind bytes that came in; nothing of the program is said here.
-/
import Derived.Test.YthbbijaikcmaeaaGreatDoorX02
namespace Go.Proofs.YthbbijaikcmaeaaGreatDoor.Dig.Plain
set_option maxRecDepth 100000
set_option linter.unusedVariables false
set_option maxRecDepth 100000
open Go.RowKit
def Bytes (w : World) (a : Option Addr) (len : Nat) (L : List Int) : Prop :=
  L.length = len ∧ Byt L ∧ (0 < len → ∃ b off, a = some ⟨b, off, none⟩ ∧ b < w.heap.size ∧ ∀ i, i < len → w.cell? ⟨b, off + i, none⟩ = some (.int .u8 (L.getD i 0)))
theorem Bytes.below {w w' : World} {a : Option Addr} {len : Nat} {L : List Int} (h : Bytes w a len L) (hb : Below w.heap.size w w') : Bytes w' a len L := by
  refine ⟨h.1, h.2.1, fun hp => ?_⟩
  obtain ⟨b, off, e, hlt, hc⟩ := h.2.2 hp
  exact ⟨b, off, e, Nat.lt_of_lt_of_le hlt hb.size, fun i hi => (hb.cell hlt).trans (hc i hi)⟩
structure But (G : Nat) (w w' : World) : Prop where
  os : w'.os = w.os
  tape : w'.tape = w.tape
  output : w'.output = w.output
  size : w.heap.size ≤ w'.heap.size
  block : ∀ k, k < w.heap.size → k ≠ G → w'.heap[k]? = w.heap[k]?
theorem But.refl (G : Nat) (w : World) : But G w w := ⟨rfl, rfl, rfl, Nat.le_refl _, fun _ _ _ => rfl⟩
theorem But.trans {G : Nat} {a b c : World} (h : But G a b) (k : But G b c) : But G a c :=
  ⟨k.os.trans h.os, k.tape.trans h.tape, k.output.trans h.output, Nat.le_trans h.size k.size, fun i hi hn => (k.block i (Nat.lt_of_lt_of_le hi h.size) hn).trans (h.block i hi hn)⟩
theorem But.of_below {G : Nat} {w w' : World} (h : Below w.heap.size w w') : But G w w' := ⟨h.os, h.tape, h.output, h.size, fun k hk _ => h.block k hk⟩
theorem But.drew {G : Nat} {w w' : World} (h : But G w w') : But G w w'.drew := ⟨h.os, h.tape, h.output, h.size, h.block⟩
theorem But.setCell {G : Nat} {w w' : World} (h : But G w w') (o : Nat) (v : Value) : But G w (w'.setCell ⟨G, o, none⟩ v) :=
  ⟨h.os, h.tape, h.output, by simpa using h.size, fun k hk hn => by rw [heap_setCell_other w' ⟨G, o, none⟩ k _ (fun e => hn e)]; exact h.block k hk hn⟩
theorem But.setRow {G : Nat} {w w' : World} (h : But G w w') (cs : Array Value) : But G w (w'.setRow G cs) :=
  ⟨h.os, h.tape, h.output, by simpa [World.setRow] using h.size, fun k hk hn => by rw [setRow_other w' G k cs hn]; exact h.block k hk hn⟩
theorem But.setCells {G : Nat} : ∀ (cs : List Value) (o : Nat) {w w' : World}, But G w w' → But G w (w'.setCells G o cs)
  | [], _, _, _, h => h
  | v :: r, o, _, _, h => But.setCells r (o + 1) (h.setCell o v)
theorem But.cell {G : Nat} {w w' : World} (h : But G w w') {b off : Nat} (hb : b < w.heap.size) (hn : b ≠ G) : w'.cell? ⟨b, off, none⟩ = w.cell? ⟨b, off, none⟩ := by
  simp [World.cell?, h.block b hb hn]
theorem But.below {G B : Nat} {w w' : World} (h : But G w w') (hB : B ≤ G) (hB2 : B ≤ w.heap.size) : Below B w w' := ⟨h.os, h.tape, h.output, h.size, fun k hk => h.block k (by omega) (by omega)⟩
theorem setCells_row (g : Nat) (t : TypeId) : ∀ (cs : List Value) (o : Nat) (cur : List Value) (w : World), w.heap[g]? = some (.cells cur.toArray t (0, 0)) → o + cs.length ≤ cur.length →
    (w.setCells g o cs).heap[g]? = some (.cells (splice cur o cs).toArray t (0, 0))
  | [], o, cur, w, h, _ => by simpa [World.setCells, splice] using h
  | v :: r, o, cur, w, h, hl => by
    rw [World.setCells]
    have h1 : (w.setCell ⟨g, o, none⟩ v).heap[g]? = some (.cells (cur.set o v).toArray t (0, 0)) := by
      rw [heap_setCell_same w g o _ t _ h]; simp
    rw [setCells_row g t r (o + 1) (cur.set o v) _ h1 (by simp at hl ⊢; omega)]
    congr 3
    simp only [splice, List.length_cons] at *
    have ho : o < cur.length := by omega
    have hm : min o cur.length = o := by omega
    rw [List.take_set, List.drop_set_of_lt (by omega), List.take_add_one, List.set_append]
    simp [ho, hm, Nat.add_assoc, Nat.add_comm 1]
def gc (ws B : List Int) (held : Nat) (tot : Int) : List Value := ws.map (Value.int .u32) ++ (B.map (Value.int .u8) ++ [.int .i64 held, .int .u64 tot])
section
variable {ws B : List Int} (h8 : ws.length = 8) (h64 : B.length = 64)
include h8 h64
theorem length_gc (held : Nat) (tot : Int) : (gc ws B held tot).length = 74 := by simp [gc, h8, h64]
theorem gc_held (held : Nat) (tot : Int) : (gc ws B held tot)[72]? = some (.int .i64 held) := by
  simp [gc, h8, h64]
theorem gc_tot (held : Nat) (tot : Int) : (gc ws B held tot)[73]? = some (.int .u64 tot) := by
  simp [gc, h8, h64]
theorem gc_set72 (held held' : Nat) (tot : Int) : (gc ws B held tot).set 72 (.int .i64 held') = gc ws B held' tot := by
  simp [gc, h8, h64]
theorem gc_set73 (held : Nat) (tot tot' : Int) : (gc ws B held tot).set 73 (.int .u64 tot') = gc ws B held tot' := by
  simp [gc, h8, h64]
omit h64 in
theorem gc_words (held : Nat) (tot : Int) (i : Nat) (hi : i < 8) : (gc ws B held tot)[i]? = some (.int .u32 (ws.getD i 0)) := by
  simp [gc, List.getElem?_append, h8, hi]
theorem gc_last (held : Nat) (tot : Int) (i : Nat) (hi : i < 64) : (gc ws B held tot)[8 + i]? = some (.int .u8 (B.getD i 0)) := by
  simp [gc, List.getElem?_append, h8, h64, hi]
theorem gc_splice (held : Nat) (tot : Int) (o : Nat) (c : List Int) (hc : o + c.length ≤ 64) : splice (gc ws B held tot) (8 + o) (c.map (Value.int .u8)) = gc ws (splice B o c) held tot := by
  simp only [splice, gc, List.length_map, List.map_append, List.map_take, List.map_drop]
  rw [List.take_append, List.drop_append]
  simp only [List.length_map, h8]
  rw [List.take_of_length_le (by simp [h8]), List.drop_of_length_le (by simp [h8]; omega)]
  rw [show 8 + o - 8 = o by omega, show 8 + o + c.length - 8 = o + c.length by omega]
  rw [List.take_append_of_le_length (by simp [h64]; omega), List.drop_append_of_le_length (by simp [h64]; omega)]
  simp
omit h64 in
theorem gc_splice0 (held : Nat) (tot : Int) (vs : List Int) (hv : vs.length = 8) : splice (gc ws B held tot) 0 (vs.map (Value.int .u32)) = gc vs B held tot := by
  simp [splice, gc, hv, h8]
end
def blk (M : List Int) : Nat → List Int
  | 0 => hh
  | n + 1 => mix (blk M n) (sched M (64 * n))
theorem wrd_hh : Wrd hh := by
  intro i
  by_cases h : i < 8
  · have key : ∀ j : Fin 8, 0 ≤ hh.getD j.val 0 ∧ hh.getD j.val 0 < 4294967296 := by decide +kernel
    exact key ⟨i, h⟩
  · have e : hh.getD i 0 = 0 := by
      simp only [List.getD]
      rw [List.getElem?_eq_none (by show 8 ≤ i; omega)]; rfl
    rw [e]; simp [W32]
theorem length_blk (M : List Int) (n : Nat) : (blk M n).length = 8 := by
  induction n with
  | zero => rfl
  | succ n ih => rw [blk, length_mix, ih]
theorem blk_app (M L : List Int) (n : Nat) (h : 64 * n ≤ M.length) : blk (M ++ L) n = blk M n := by
  induction n with
  | zero => rfl
  | succ n ih =>
    rw [blk, blk, ih (by omega)]
    rw [sched_congr (M ++ L) M (64 * n) (64 * n) (fun i hi => getD_app_left _ _ _ (by omega))]
structure Inv (M ws B : List Int) (held : Nat) : Prop where
  h8 : ws.length = 8
  wrd : Wrd ws
  h64 : B.length = 64
  byt : Byt B
  hheld : held = M.length % 64
  hws : ws = blk M (M.length / 64)
  hB : ∀ i, i < held → B.getD i 0 = M.getD (64 * (M.length / 64) + i) 0
theorem getD_splice (B c : List Int) (o i : Nat) (h : o + c.length ≤ B.length) : (splice B o c).getD i 0 = if i < o then B.getD i 0 else if i < o + c.length then c.getD (i - o) 0 else B.getD i 0 := by
  have hm : min o B.length = o := by omega
  simp only [splice, List.getD]
  by_cases h1 : i < o
  · rw [if_pos h1, List.getElem?_append_left (by simp; omega), List.getElem?_take, if_pos h1]
  · rw [if_neg h1, List.getElem?_append_right (by simp; omega)]
    simp only [List.length_take, hm]
    by_cases h2 : i < o + c.length
    · rw [if_pos h2, List.getElem?_append_left (by omega)]
    · rw [if_neg h2, List.getElem?_append_right (by omega), List.getElem?_drop]
      congr 2; omega
theorem byt_splice (B c : List Int) (o : Nat) (h : o + c.length ≤ B.length) (hB : Byt B) (hc : Byt c) : Byt (splice B o c) := by
  intro i
  rw [getD_splice B c o i h]
  split
  · exact hB i
  · split
    · exact hc _
    · exact hB i
theorem getD_app (M c : List Int) (i : Nat) : (M ++ c).getD i 0 = if i < M.length then M.getD i 0 else c.getD (i - M.length) 0 := by
  simp only [List.getD]
  split
  · rw [List.getElem?_append_left (by assumption)]
  · rw [List.getElem?_append_right (by omega)]
theorem Inv.part {M ws B : List Int} {held : Nat} (h : Inv M ws B held) (c : List Int) (hc : Byt c) (hl : held + c.length < 64) : Inv (M ++ c) ws (splice B held c) (held + c.length) := by
  obtain ⟨h8, wrd, h64, byt, hheld, hws, hB⟩ := h
  have e1 : (M.length + c.length) / 64 = M.length / 64 := by omega
  refine ⟨h8, wrd, by rw [length_splice _ _ _ (by omega)]; exact h64, byt_splice _ _ _ (by omega) byt hc, by simp; omega, ?_, fun i hi => ?_⟩
  · rw [List.length_append, e1, blk_app M c _ (by omega)]; exact hws
  · rw [getD_splice _ _ _ _ (by omega), List.length_append, e1, getD_app]
    by_cases h1 : i < held
    · rw [if_pos h1, if_pos (by omega)]; exact hB i h1
    · rw [if_neg h1, if_pos (by omega), if_neg (by omega)]; congr 1; omega
theorem Inv.full {M ws B : List Int} {held : Nat} (h : Inv M ws B held) (c : List Int) (hc : Byt c) (hl : held + c.length = 64) : Inv (M ++ c) (mix ws (sched (splice B held c) 0)) (splice B held c) 0 := by
  obtain ⟨h8, wrd, h64, byt, hheld, hws, hB⟩ := h
  have e1 : (M.length + c.length) / 64 = M.length / 64 + 1 := by omega
  have hs : sched (splice B held c) 0 = sched (M ++ c) (64 * (M.length / 64)) := by
    refine sched_congr _ _ _ _ (fun i hi => ?_)
    rw [Nat.zero_add, getD_splice _ _ _ _ (by omega), getD_app]
    by_cases h1 : i < held
    · rw [if_pos h1, if_pos (by omega)]; exact hB i h1
    · rw [if_neg h1, if_pos (by omega), if_neg (by omega)]; congr 1; omega
  have hb : blk (M ++ c) (M.length / 64) = ws := by rw [blk_app M c _ (by omega), hws]
  have hz : 0 = (M ++ c).length % 64 := by rw [List.length_append]; omega
  have hw : mix ws (sched (splice B held c) 0) = blk (M ++ c) ((M ++ c).length / 64) := by rw [List.length_append, e1, blk, hb, hs]
  exact ⟨by rw [length_mix]; exact h8, wrd_mix _ _ wrd, by rw [length_splice _ _ _ (by omega)]; exact h64, byt_splice _ _ _ (by omega) byt hc, hz, hw, fun i hi => absurd hi (Nat.not_lt_zero i)⟩
theorem Inv.start : Inv [] hh (List.replicate 64 0) 0 where
  h8 := rfl
  wrd := wrd_hh
  h64 := by simp
  byt := fun i => by
    simp only [List.getD, List.getElem?_replicate]
    split <;> simp
  hheld := by simp
  hws := by rw [List.length_nil, Nat.zero_div, blk]
  hB := fun i hi => absurd hi (by omega)
end Go.Proofs.YthbbijaikcmaeaaGreatDoor.Dig.Plain
