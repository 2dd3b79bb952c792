/-
  What slices.IndexFunc and slices.DeleteFunc leave of the writes under way.
-/
import Derived.Test.YtlokhbkjkobmaaaZC
namespace Go.Proofs.Ytlokhbkjkobmaaa
set_option linter.unusedVariables false
open Go.RowKit Plain

set_option maxRecDepth 20000 in
set_option maxHeartbeats 1000000 in
theorem del_any (w : World) (p i S : Nat) (b : List Int) (hS : w.cell? ⟨S, 0, none⟩ = some (.int .i64 (i : Int))) :
    Calls Try.prog 42 #[.agg (wc (p, b)).toArray, .pointer (some ⟨S, 0, none⟩)] w fun e w' => e = .returned (.bool (decide (p = i))) ∧ Below w.heap.size w w' := by
  have c0 : (w.alloc (.cells (wc (p, b)).toArray 84)).cell? ⟨w.heap.size, 0, none⟩ = some (.int .i64 (p : Int)) := (range_wc (al_at rfl)).1
  have cS : (w.alloc (.cells (wc (p, b)).toArray 84)).cell? ⟨S, 0, none⟩ = some (.int .i64 (i : Int)) := cell_al _ hS
  have HE : Box (((p : Int) == (i : Int)) = decide (p = i)) := ⟨by
    by_cases h : p = i
    · subst h; simp
    · have h2 : ¬ ((p : Int) = (i : Int)) := by omega
      simp [h, h2]⟩
  have hb : Box (Below w.heap.size w (w.alloc (.cells (wc (p, b)).toArray 84))) := ⟨(Below.refl _ _).alloc (Nat.le_refl _) _⟩
  clear hS
  go_enter Try.func42, Try.ntmps42
  go_wp2
  go_ret
  exact ⟨by rw [← HE.out]; rfl, hb.out⟩
/-- The first write to a place. -/
def fst (L : List (Nat × List Int)) (i : Nat) (k : Nat) : Prop := k < L.length ∧ (∀ h : k < L.length, L[k].1 = i) ∧ ∀ j (h : j < L.length), j < k → L[j].1 ≠ i
set_option maxRecDepth 20000 in
set_option maxHeartbeats 2000000 in
theorem index_any (w : World) (a : Option Addr) (cap S i : Nat) (L : List (Nat × List Int)) (hL : Lens L) (hW : Ways w.heap.size w a L) (hl : L.length < 1000000) (hS : w.cell? ⟨S, 0, none⟩ = some (.int .i64 (i : Int))) :
    Calls Try.prog 49 #[.slice a L.length cap, .func (.func 42) #[] #[.pointer (some ⟨S, 0, none⟩)]] w fun e w' => Below w.heap.size w w' ∧ ((e = .returned (.int .i64 (-1)) ∧ ∀ j (h : j < L.length), L[j].1 ≠ i) ∨ ∃ k : Nat, e = .returned (.int .i64 (k : Int)) ∧ fst L i k) := by
  have HW : Box (Ways w.heap.size w a L) := ⟨hW⟩
  have HS : Box (w.cell? ⟨S, 0, none⟩ = some (.int .i64 (i : Int))) := ⟨hS⟩
  have hl2 : L.length < 9223372036854775807 := by omega
  clear hW hS
  go_enter Try.func49, Try.ntmps49
  go_wp2
  go_loopw [8] (fun j wr => ∃ k : Nat, k ≤ L.length ∧ j = .int .i64 k ∧ Box (Below w.heap.size w wr ∧ ∀ q (h : q < L.length), q < k → L[q].1 ≠ i)) (fun j _ => L.length - (intOf j).toNat)
  case atStart => exact ⟨0, Nat.zero_le _, rfl, ⟨Below.refl _ _, fun q _ hq => by omega⟩⟩
  case round =>
    obtain ⟨k, hk, rfl, HI⟩ := hrel
    by_cases hlt : k < L.length
    · obtain ⟨g, rfl, hg, hr⟩ := HW.out.below HI.out.1 (show 0 < L.length by omega)
      have hrk := hr k hlt
      have hlen := hL L[k] (List.getElem_mem hlt)
      have hS2 : wr.cell? ⟨S, 0, none⟩ = some (.int .i64 (i : Int)) := (HI.out.1.cell (p := ⟨S, 0, none⟩) (World.block_lt_of_cell? w _ HS.out)).trans HS.out
      have HD : Box (Calls Try.prog 42 #[.agg (wc L[k]).toArray, .pointer (some ⟨S, 0, none⟩)] wr fun e w' => e = .returned (.bool (decide (L[k].1 = i))) ∧ Below wr.heap.size wr w') := ⟨del_any wr L[k].1 i S L[k].2 hS2⟩
      have Hr : Box (wr.rangeAt g (k * 193) (wc L[k])) := ⟨hrk⟩
      have Hi : Box ((Try.prog.info? 84).map (·.size) = some (wc L[k]).length) := ⟨by rw [length_wc _ hlen]; exact info84⟩
      have HX : Box (∀ x, L[k].1 = i ↔ L[k].1 = i) := ⟨fun _ => Iff.rfl⟩
      obtain ⟨x, hx⟩ : ∃ x, L[k] = x := ⟨_, rfl⟩
      rw [hx] at HD Hr Hi
      have Hx : Box (L[k] = x) := ⟨hx⟩
      clear hr hrk hlen hS2 hx HX
      by_cases hp : x.1 = i
      · rw [show decide (x.1 = i) = true by simpa using hp] at HD
        go_wp2_with (first
          | (refine wpList_load_mid rfl 84 _ rfl g (k * 193) rfl (wc x) _ Hr.out Try.underlying84 rfl Hi.out ?_)
          | (go_at_call 42; refine HD.out.mono ?_; rintro e w3 ⟨rfl, hb3⟩; have B3 : Box _ := ⟨hb3⟩; clear hb3))
        go_ret
        exact ⟨HI.out.1.trans (B3.out.mono HI.out.1.size), .inr ⟨k, rfl, hlt, fun _ => by rw [Hx.out]; exact hp, fun q hq hqk => HI.out.2 q hq hqk⟩⟩
      · rw [show decide (x.1 = i) = false by simpa using hp] at HD
        go_wp2_with (first
          | (refine wpList_load_mid rfl 84 _ rfl g (k * 193) rfl (wc x) _ Hr.out Try.underlying84 rfl Hi.out ?_)
          | (go_at_call 42; refine HD.out.mono ?_; rintro e w3 ⟨rfl, hb3⟩; have B3 : Box _ := ⟨hb3⟩; clear hb3))
        exact ⟨⟨k + 1, by omega, by simp, ⟨HI.out.1.trans (B3.out.mono HI.out.1.size), fun q hq hqk => by
          by_cases e : q = k
          · subst e; rw [Hx.out]; exact hp
          · exact HI.out.2 q hq (by omega)⟩⟩, by simp [intOf]; omega⟩
    · obtain rfl : k = L.length := by omega
      go_wp2
      go_ret
      exact ⟨HI.out.1, .inl ⟨rfl, fun j h => HI.out.2 j h h⟩⟩
/-- The writes to other places. -/
def oth (i : Nat) (L : List (Nat × List Int)) : List (Nat × List Int) := L.filter (fun x => !(decide (x.1 = i)))
theorem oth_all (i : Nat) (L : List (Nat × List Int)) (h : ∀ j (h : j < L.length), L[j].1 ≠ i) : oth i L = L := by
  rw [oth, List.filter_eq_self]
  intro x hx
  obtain ⟨j, hj, rfl⟩ := List.getElem_of_mem hx
  simpa using h j hj
theorem oth_succ (i : Nat) (L : List (Nat × List Int)) (j : Nat) (h : j < L.length) : oth i (L.take (j + 1)) = oth i (L.take j) ++ (if L[j].1 = i then [] else [L[j]]) := by
  rw [oth, ← List.take_append_getElem h, List.filter_append, oth]
  congr 1
  by_cases e : L[j].1 = i <;> simp [e]
theorem oth_len (i : Nat) (L : List (Nat × List Int)) : (oth i L).length ≤ L.length := List.length_filter_le _ _
theorem wcs_len (L : List (Nat × List Int)) (h : Lens L) : (wcs L).length = L.length * 193 := by
  rw [wcs, flat_length _ 193 (fun x hx => by obtain ⟨y, hy, rfl⟩ := List.mem_map.1 hx; exact length_wc y (h y hy)), List.length_map]
theorem lens_oth {i : Nat} {L : List (Nat × List Int)} (h : Lens L) : Lens (oth i L) := fun x hx => h x (List.mem_filter.1 hx).1
theorem lens_take {L : List (Nat × List Int)} (h : Lens L) (j : Nat) : Lens (L.take j) := fun x hx => h x (List.mem_of_mem_take hx)
/-- So far: the first ones are the other places', and all from j on are as they were. -/
structure Dl (w wr : World) (g : Nat) (cur : Array Value) (i j : Nat) (L : List (Nat × List Int)) : Prop where
  row : ∃ cs : Array Value, wr.heap[g]? = some (.cells cs 84 (0, 0)) ∧ cs.size = cur.size ∧ cs.toList.take ((oth i (L.take j)).length * 193) = wcs (oth i (L.take j)) ∧ cs.toList.drop (j * 193) = cur.toList.drop (j * 193)
  but : But g w wr
theorem splice_take {α : Type} (L vs : List α) (o : Nat) (h : o + vs.length ≤ L.length) : (splice L o vs).take (o + vs.length) = L.take o ++ vs := by
  unfold splice
  rw [← List.append_assoc, List.take_left' (by simp; omega)]
theorem splice_drop {α : Type} (L vs : List α) (o k : Nat) (h : o + vs.length ≤ L.length) (hk : o + vs.length ≤ k) : (splice L o vs).drop k = L.drop k := by
  unfold splice
  rw [← List.append_assoc, List.drop_append, List.drop_of_length_le (by simp; omega), List.nil_append, List.drop_drop]
  congr 1
  simp
  omega
theorem splice_len {α : Type} (L vs : List α) (o : Nat) (h : o + vs.length ≤ L.length) : (splice L o vs).length = L.length := by
  unfold splice
  simp
  omega
/-- A write to another place is moved to the front. -/
theorem Dl.move {w wr wx : World} {g : Nat} {cur : Array Value} {i j : Nat} {L : List (Nat × List Int)} (h : Dl w wr g cur i j L) (hL : Lens L) (hb : Below wr.heap.size wr wx) (hj : j < L.length) (hlt : (oth i (L.take j)).length < j) (hfit : j * 193 ≤ cur.size) (hne : L[j].1 ≠ i) :
    Dl w (wx.setCells g ((oth i (L.take j)).length * 193) (wc L[j]).toArray.toList) g cur i (j + 1) L ∧ (oth i (L.take (j + 1))).length = (oth i (L.take j)).length + 1 := by
  obtain ⟨cs, h1, h2, h3, h4⟩ := h.row
  have hg : g < wr.heap.size := (Array.getElem?_eq_some_iff.1 h1).1
  have hlen : (wc L[j]).toArray.toList.length = 193 := length_wc _ (hL _ (List.getElem_mem hj))
  have hm : ((oth i (L.take j)).length + 1) * 193 ≤ j * 193 := Nat.mul_le_mul_right _ hlt
  have hf : (oth i (L.take j)).length * 193 + (wc L[j]).toArray.toList.length ≤ cs.toList.length := by
    have hc : cs.toList.length = cur.size := by rw [Array.length_toList, h2]
    rw [hlen, hc]
    omega
  have e1 : oth i (L.take (j + 1)) = oth i (L.take j) ++ [L[j]] := by rw [oth_succ i L j hj, if_neg hne]
  have hrow := heap_setCells g _ (wc L[j]).toArray.toList ((oth i (L.take j)).length * 193) wx cs ((hb.block g hg).trans h1) (by rw [hlen, h2]; omega)
  refine ⟨⟨⟨_, hrow, ?_, ?_, ?_⟩, ?_⟩, by rw [e1]; simp⟩
  · rw [List.size_toArray, splice_len _ _ _ hf, Array.length_toList, h2]
  · rw [e1, wcs_snoc, List.toList_toArray]
    have e2 : (oth i (L.take j) ++ [L[j]]).length * 193 = (oth i (L.take j)).length * 193 + (wc L[j]).toArray.toList.length := by rw [hlen]; simp; omega
    rw [e2, splice_take _ _ _ hf, h3]
  · rw [List.toList_toArray, splice_drop _ _ _ _ hf (by rw [hlen]; omega)]
    have h5 := congrArg (List.drop 193) h4
    rw [List.drop_drop, List.drop_drop] at h5
    rw [show (j + 1) * 193 = j * 193 + 193 by omega]
    exact h5
  · exact but_setCells _ _ _ _ _ (h.but.trans ⟨hb.os, hb.tape, hb.output, hb.size, fun k hk _ => hb.block k hk⟩)
theorem Dl.skip {w wr wx : World} {g : Nat} {cur : Array Value} {i j : Nat} {L : List (Nat × List Int)} (h : Dl w wr g cur i j L) (hb : Below wr.heap.size wr wx) (hj : j < L.length) (hne : L[j].1 = i) :
    Dl w wx g cur i (j + 1) L ∧ oth i (L.take (j + 1)) = oth i (L.take j) := by
  obtain ⟨cs, h1, h2, h3, h4⟩ := h.row
  have hg : g < wr.heap.size := (Array.getElem?_eq_some_iff.1 h1).1
  have e1 : oth i (L.take (j + 1)) = oth i (L.take j) := by rw [oth_succ i L j hj, if_pos hne]; simp
  refine ⟨⟨⟨cs, (hb.block g hg).trans h1, h2, by rw [e1]; exact h3, ?_⟩, h.but.trans ⟨hb.os, hb.tape, hb.output, hb.size, fun k hk _ => hb.block k hk⟩⟩, e1⟩
  have h5 := congrArg (List.drop 193) h4
  rw [List.drop_drop, List.drop_drop] at h5
  rw [show (j + 1) * 193 = j * 193 + 193 by omega]
  exact h5
/-- What stands at j is as it was. -/
theorem Dl.at_ {w wr : World} {g : Nat} {cur : Array Value} {i j : Nat} {L : List (Nat × List Int)} (h : Dl w wr g cur i j L) (hL : Lens L) (hj : j < L.length) (hcur : cur.toList.take (L.length * 193) = wcs L) : wr.rangeAt g (j * 193) (wc L[j]) := by
  obtain ⟨cs, h1, h2, h3, h4⟩ := h.row
  intro q v hv
  have hq : q < 193 := by
    have := (List.getElem?_eq_some_iff.1 hv).1
    rw [length_wc _ (hL _ (List.getElem_mem hj))] at this
    exact this
  have hm : (j + 1) * 193 ≤ L.length * 193 := Nat.mul_le_mul_right _ hj
  rw [cell_of_row _ _ _ _ _ _ h1, ← Array.getElem?_toList]
  have e1 : cs.toList[j * 193 + q]? = (cs.toList.drop (j * 193))[q]? := by rw [List.getElem?_drop]
  rw [e1, h4, List.getElem?_drop]
  have e2 : cur.toList[j * 193 + q]? = (cur.toList.take (L.length * 193))[j * 193 + q]? := by rw [List.getElem?_take, if_pos (by omega)]
  rw [e2, hcur, wcs, Nat.mul_comm j 193, flat_at _ 193 (fun x hx => by obtain ⟨y, hy, rfl⟩ := List.mem_map.1 hx; exact length_wc y (hL y hy)) j (by simpa using hj) q hq]
  simpa using hv
end Go.Proofs.Ytlokhbkjkobmaaa
