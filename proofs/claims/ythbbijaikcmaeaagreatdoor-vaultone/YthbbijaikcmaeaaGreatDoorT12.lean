/-
  What slices.IndexFunc and slices.DeleteFunc leave of the writes under way. And what follows it.
-/
import Derived.Test.YthbbijaikcmaeaaGreatDoorT11
namespace Go.Proofs.YthbbijaikcmaeaaGreatDoor.Disk.Plain
set_option maxRecDepth 100000
end Go.Proofs.YthbbijaikcmaeaaGreatDoor.Disk.Plain
namespace Go.Proofs.YthbbijaikcmaeaaGreatDoor.Disk
set_option maxRecDepth 100000
set_option linter.unusedVariables false
set_option maxRecDepth 100000
open Go.RowKit Go.Proofs.YthbbijaikcmaeaaGreatDoor.Plain Go.Proofs.YthbbijaikcmaeaaGreatDoor.Disk.Plain
set_option maxRecDepth 20000 in
set_option maxHeartbeats 1000000 in
theorem del_any (w : World) (p i S : Nat) (b : List Int) (hS : w.cell? ⟨S, 0, none⟩ = some (.int .i64 (i : Int))) :
    Calls Tryz.prog 38 #[.agg (wc (p, b)).toArray, .pointer (some ⟨S, 0, none⟩)] w fun e w' => e = .returned (.bool (decide (p = i))) ∧ Below w.heap.size w w' := by
  have c0 : (w.alloc (.cells (wc (p, b)).toArray 95)).cell? ⟨w.heap.size, 0, none⟩ = some (.int .i64 (p : Int)) := (range_wc (al_at rfl)).1
  have cS : (w.alloc (.cells (wc (p, b)).toArray 95)).cell? ⟨S, 0, none⟩ = some (.int .i64 (i : Int)) := cell_al _ hS
  have HE : Box (((p : Int) == (i : Int)) = decide (p = i)) := ⟨by
    by_cases h : p = i
    · subst h; simp
    · have h2 : ¬ ((p : Int) = (i : Int)) := by omega
      simp [h, h2]⟩
  have hb : Box (Below w.heap.size w (w.alloc (.cells (wc (p, b)).toArray 95))) := ⟨(Below.refl _ _).alloc (Nat.le_refl _) _⟩
  clear hS
  go_enter Tryz.func38, Tryz.ntmps38
  go_wp2
  go_ret
  exact ⟨by rw [← HE.out]; rfl, hb.out⟩
def fst (L : List (Nat × List Int)) (i : Nat) (k : Nat) : Prop := k < L.length ∧ (∀ h : k < L.length, L[k].1 = i) ∧ ∀ j (h : j < L.length), j < k → L[j].1 ≠ i
set_option maxRecDepth 20000 in
set_option maxHeartbeats 2000000 in
theorem index_any (w : World) (a : Option Addr) (cap S i : Nat) (L : List (Nat × List Int)) (hL : Lens L) (hW : Ways w.heap.size w a L) (hl : L.length < 1000000) (hS : w.cell? ⟨S, 0, none⟩ = some (.int .i64 (i : Int))) :
    Calls Tryz.prog 59 #[.slice a L.length cap, .func (.func 38) #[] #[.pointer (some ⟨S, 0, none⟩)]] w fun e w' => Below w.heap.size w w' ∧ ((e = .returned (.int .i64 (-1)) ∧ ∀ j (h : j < L.length), L[j].1 ≠ i) ∨ ∃ k : Nat, e = .returned (.int .i64 (k : Int)) ∧ fst L i k) := by
  have HW : Box (Ways w.heap.size w a L) := ⟨hW⟩
  have HS : Box (w.cell? ⟨S, 0, none⟩ = some (.int .i64 (i : Int))) := ⟨hS⟩
  have hl2 : L.length < 9223372036854775807 := by omega
  clear hW hS
  go_enter Tryz.func59, Tryz.ntmps59
  go_wp2
  go_loopw [8] (fun j wr => ∃ k : Nat, k ≤ L.length ∧ j = .int .i64 k ∧ Box (Below w.heap.size w wr ∧ ∀ q (h : q < L.length), q < k → L[q].1 ≠ i)) (fun j _ => L.length - (intOf j).toNat)
  case atStart => exact ⟨0, Nat.zero_le _, rfl, ⟨Below.refl _ _, fun q _ hq => by omega⟩⟩
  case round =>
    obtain ⟨k, hk, rfl, HI⟩ := hrel
    by_cases hlt : k < L.length
    · obtain ⟨g, rfl, hg, hr⟩ := HW.out.below HI.out.1 (show 0 < L.length by omega)
      have hrk := hr k hlt
      have hlen := hL L[k] (List.getElem_mem hlt)
      have hS2 : wr.cell? ⟨S, 0, none⟩ = some (.int .i64 (i : Int)) := (HI.out.1.cell (p := ⟨S, 0, none⟩) (World.block_lt_of_cell? w _ HS.out)).trans HS.out
      have HD : Box (Calls Tryz.prog 38 #[.agg (wc L[k]).toArray, .pointer (some ⟨S, 0, none⟩)] wr fun e w' => e = .returned (.bool (decide (L[k].1 = i))) ∧ Below wr.heap.size wr w') := ⟨del_any wr L[k].1 i S L[k].2 hS2⟩
      have Hr : Box (wr.rangeAt g (k * 193) (wc L[k])) := ⟨hrk⟩
      have Hi : Box ((Tryz.prog.info? 95).map (·.size) = some (wc L[k]).length) := ⟨by rw [length_wc _ hlen]; exact info84⟩
      have HX : Box (∀ x, L[k].1 = i ↔ L[k].1 = i) := ⟨fun _ => Iff.rfl⟩
      obtain ⟨x, hx⟩ : ∃ x, L[k] = x := ⟨_, rfl⟩
      rw [hx] at HD Hr Hi
      have Hx : Box (L[k] = x) := ⟨hx⟩
      clear hr hrk hlen hS2 hx HX
      by_cases hp : x.1 = i
      · rw [show decide (x.1 = i) = true by simpa using hp] at HD
        go_wp2_with (first
          | (refine wpList_load_mid rfl 95 _ rfl g (k * 193) rfl (wc x) _ Hr.out Tryz.underlying95 rfl Hi.out ?_)
          | (go_at_call 38; refine HD.out.mono ?_; rintro e w3 ⟨rfl, hb3⟩; have B3 : Box _ := ⟨hb3⟩; clear hb3))
        go_ret
        exact ⟨HI.out.1.trans (B3.out.mono HI.out.1.size), .inr ⟨k, rfl, hlt, fun _ => by rw [Hx.out]; exact hp, fun q hq hqk => HI.out.2 q hq hqk⟩⟩
      · rw [show decide (x.1 = i) = false by simpa using hp] at HD
        go_wp2_with (first
          | (refine wpList_load_mid rfl 95 _ rfl g (k * 193) rfl (wc x) _ Hr.out Tryz.underlying95 rfl Hi.out ?_)
          | (go_at_call 38; refine HD.out.mono ?_; rintro e w3 ⟨rfl, hb3⟩; have B3 : Box _ := ⟨hb3⟩; clear hb3))
        exact ⟨⟨k + 1, by omega, by simp, ⟨HI.out.1.trans (B3.out.mono HI.out.1.size), fun q hq hqk => by
          by_cases e : q = k
          · subst e; rw [Hx.out]; exact hp
          · exact HI.out.2 q hq (by omega)⟩⟩, by simp [intOf]; omega⟩
    · obtain rfl : k = L.length := by omega
      go_wp2
      go_ret
      exact ⟨HI.out.1, .inl ⟨rfl, fun j h => HI.out.2 j h h⟩⟩
def oth (i : Nat) (L : List (Nat × List Int)) : List (Nat × List Int) := L.filter (fun x => !(decide (x.1 = i)))
theorem oth_all (i : Nat) (L : List (Nat × List Int)) (h : ∀ j (h : j < L.length), L[j].1 ≠ i) : oth i L = L := by
  rw [oth, List.filter_eq_self]
  intro x hx
  obtain ⟨j, hj, rfl⟩ := List.getElem_of_mem hx
  simpa using h j hj
theorem oth_succ (i : Nat) (L : List (Nat × List Int)) (j : Nat) (h : j < L.length) : oth i (L.take (j + 1)) = oth i (L.take j) ++ (if L[j].1 = i then [] else [L[j]]) := by
  rw [oth, ← List.take_append_getElem h, List.filter_append, oth]
  congr 1
  by_cases e : L[j].1 = i <;> simp [e]
theorem oth_len (i : Nat) (L : List (Nat × List Int)) : (oth i L).length ≤ L.length := List.length_filter_le _ _
theorem wcs_len (L : List (Nat × List Int)) (h : Lens L) : (wcs L).length = L.length * 193 := by
  rw [wcs, flat_length _ 193 (fun x hx => by obtain ⟨y, hy, rfl⟩ := List.mem_map.1 hx; exact length_wc y (h y hy)), List.length_map]
theorem lens_oth {i : Nat} {L : List (Nat × List Int)} (h : Lens L) : Lens (oth i L) := fun x hx => h x (List.mem_filter.1 hx).1
theorem lens_take {L : List (Nat × List Int)} (h : Lens L) (j : Nat) : Lens (L.take j) := fun x hx => h x (List.mem_of_mem_take hx)
structure Dl (w wr : World) (g : Nat) (cur : Array Value) (i j : Nat) (L : List (Nat × List Int)) : Prop where
  row : ∃ cs : Array Value, wr.heap[g]? = some (.cells cs 95 (0, 0)) ∧ cs.size = cur.size ∧ cs.toList.take ((oth i (L.take j)).length * 193) = wcs (oth i (L.take j)) ∧ cs.toList.drop (j * 193) = cur.toList.drop (j * 193)
  but : But g w wr
theorem splice_take {α : Type} (L vs : List α) (o : Nat) (h : o + vs.length ≤ L.length) : (splice L o vs).take (o + vs.length) = L.take o ++ vs := by
  unfold splice
  rw [← List.append_assoc, List.take_left' (by simp; omega)]
theorem splice_drop {α : Type} (L vs : List α) (o k : Nat) (h : o + vs.length ≤ L.length) (hk : o + vs.length ≤ k) : (splice L o vs).drop k = L.drop k := by
  unfold splice
  rw [← List.append_assoc, List.drop_append, List.drop_of_length_le (by simp; omega), List.nil_append, List.drop_drop]
  congr 1
  simp
  omega
theorem splice_len {α : Type} (L vs : List α) (o : Nat) (h : o + vs.length ≤ L.length) : (splice L o vs).length = L.length := by
  unfold splice
  simp
  omega
theorem Dl.move {w wr wx : World} {g : Nat} {cur : Array Value} {i j : Nat} {L : List (Nat × List Int)} (h : Dl w wr g cur i j L) (hL : Lens L) (hb : Below wr.heap.size wr wx) (hj : j < L.length) (hlt : (oth i (L.take j)).length < j) (hfit : j * 193 ≤ cur.size) (hne : L[j].1 ≠ i) :
    Dl w (wx.setCells g ((oth i (L.take j)).length * 193) (wc L[j]).toArray.toList) g cur i (j + 1) L ∧ (oth i (L.take (j + 1))).length = (oth i (L.take j)).length + 1 := by
  obtain ⟨cs, h1, h2, h3, h4⟩ := h.row
  have hg : g < wr.heap.size := (Array.getElem?_eq_some_iff.1 h1).1
  have hlen : (wc L[j]).toArray.toList.length = 193 := length_wc _ (hL _ (List.getElem_mem hj))
  have hm : ((oth i (L.take j)).length + 1) * 193 ≤ j * 193 := Nat.mul_le_mul_right _ hlt
  have hf : (oth i (L.take j)).length * 193 + (wc L[j]).toArray.toList.length ≤ cs.toList.length := by
    have hc : cs.toList.length = cur.size := by rw [Array.length_toList, h2]
    rw [hlen, hc]
    omega
  have e1 : oth i (L.take (j + 1)) = oth i (L.take j) ++ [L[j]] := by rw [oth_succ i L j hj, if_neg hne]
  have hrow := heap_setCells g _ (wc L[j]).toArray.toList ((oth i (L.take j)).length * 193) wx cs ((hb.block g hg).trans h1) (by rw [hlen, h2]; omega)
  refine ⟨⟨⟨_, hrow, ?_, ?_, ?_⟩, ?_⟩, by rw [e1]; simp⟩
  · rw [List.size_toArray, splice_len _ _ _ hf, Array.length_toList, h2]
  · rw [e1, wcs_snoc, List.toList_toArray]
    have e2 : (oth i (L.take j) ++ [L[j]]).length * 193 = (oth i (L.take j)).length * 193 + (wc L[j]).toArray.toList.length := by rw [hlen]; simp; omega
    rw [e2, splice_take _ _ _ hf, h3]
  · rw [List.toList_toArray, splice_drop _ _ _ _ hf (by rw [hlen]; omega)]
    have h5 := congrArg (List.drop 193) h4
    rw [List.drop_drop, List.drop_drop] at h5
    rw [show (j + 1) * 193 = j * 193 + 193 by omega]
    exact h5
  · exact but_setCells _ _ _ _ _ (h.but.trans ⟨hb.os, hb.tape, hb.output, hb.size, fun k hk _ => hb.block k hk⟩)
theorem Dl.skip {w wr wx : World} {g : Nat} {cur : Array Value} {i j : Nat} {L : List (Nat × List Int)} (h : Dl w wr g cur i j L) (hb : Below wr.heap.size wr wx) (hj : j < L.length) (hne : L[j].1 = i) :
    Dl w wx g cur i (j + 1) L ∧ oth i (L.take (j + 1)) = oth i (L.take j) := by
  obtain ⟨cs, h1, h2, h3, h4⟩ := h.row
  have hg : g < wr.heap.size := (Array.getElem?_eq_some_iff.1 h1).1
  have e1 : oth i (L.take (j + 1)) = oth i (L.take j) := by rw [oth_succ i L j hj, if_pos hne]; simp
  refine ⟨⟨⟨cs, (hb.block g hg).trans h1, h2, by rw [e1]; exact h3, ?_⟩, h.but.trans ⟨hb.os, hb.tape, hb.output, hb.size, fun k hk _ => hb.block k hk⟩⟩, e1⟩
  have h5 := congrArg (List.drop 193) h4
  rw [List.drop_drop, List.drop_drop] at h5
  rw [show (j + 1) * 193 = j * 193 + 193 by omega]
  exact h5
theorem Dl.at_ {w wr : World} {g : Nat} {cur : Array Value} {i j : Nat} {L : List (Nat × List Int)} (h : Dl w wr g cur i j L) (hL : Lens L) (hj : j < L.length) (hcur : cur.toList.take (L.length * 193) = wcs L) : wr.rangeAt g (j * 193) (wc L[j]) := by
  obtain ⟨cs, h1, h2, h3, h4⟩ := h.row
  intro q v hv
  have hq : q < 193 := by
    have := (List.getElem?_eq_some_iff.1 hv).1
    rw [length_wc _ (hL _ (List.getElem_mem hj))] at this
    exact this
  have hm : (j + 1) * 193 ≤ L.length * 193 := Nat.mul_le_mul_right _ hj
  rw [cell_of_row _ _ _ _ _ _ h1, ← Array.getElem?_toList]
  have e1 : cs.toList[j * 193 + q]? = (cs.toList.drop (j * 193))[q]? := by rw [List.getElem?_drop]
  rw [e1, h4, List.getElem?_drop]
  have e2 : cur.toList[j * 193 + q]? = (cur.toList.take (L.length * 193))[j * 193 + q]? := by rw [List.getElem?_take, if_pos (by omega)]
  rw [e2, hcur, wcs, Nat.mul_comm j 193, flat_at _ 193 (fun x hx => by obtain ⟨y, hy, rfl⟩ := List.mem_map.1 hx; exact length_wc y (hL y hy)) j (by simpa using hj) q hq]
  simpa using hv
end Go.Proofs.YthbbijaikcmaeaaGreatDoor.Disk
namespace Go.Proofs.YthbbijaikcmaeaaGreatDoor.Disk.Plain
set_option maxRecDepth 100000
end Go.Proofs.YthbbijaikcmaeaaGreatDoor.Disk.Plain
namespace Go.Proofs.YthbbijaikcmaeaaGreatDoor.Disk
set_option maxRecDepth 100000
set_option linter.unusedVariables false
open Go.RowKit Go.Proofs.YthbbijaikcmaeaaGreatDoor.Plain Go.Proofs.YthbbijaikcmaeaaGreatDoor.Disk.Plain
theorem slice65_lo (g n cap i : Nat) (hi : i < n) (hc : n ≤ cap) (hm : cap ≤ maxLen) (x : World) : (Instr.sliceAt 69 (.slice (some ⟨g, 0, none⟩) n cap) (some (.int .i64 (i : Int))) none none).run Tryz.prog x = .ok (.slice (some ⟨g, i * 193, none⟩) (n - i) (cap - i)) x := by
  have hu : Tryz.prog.underlying 69 = some (.slice (Tryz.prog.elem 69)) := by kernel_rfl
  rw [run_sliceAt_slice (P := Tryz.prog) x 69 _ _ _ _ hu, run_slice_l (P := Tryz.prog) x 69 _ n cap hu .i64 (i : Int) (by omega) (by omega)]
  have hs : (sizeOf (Tryz.prog.elem 69)).run Tryz.prog x = .ok 193 x := by kernel_rfl
  rw [hs, Result.andThen_ok, sliced]
  simp [show ¬ cap = i by omega, Addr.add_mid]
theorem slice65_hi (g n cap i : Nat) (hi : i ≤ n) (hc : n ≤ cap) (h0 : 0 < cap) (x : World) : (Instr.sliceAt 69 (.slice (some ⟨g, 0, none⟩) n cap) none (some (.int .i64 (i : Int))) none).run Tryz.prog x = .ok (.slice (some ⟨g, 0, none⟩) i cap) x := by
  have hu : Tryz.prog.underlying 69 = some (.slice (Tryz.prog.elem 69)) := by kernel_rfl
  rw [run_sliceAt_slice (P := Tryz.prog) x 69 _ _ _ _ hu, run_slice_h (P := Tryz.prog) x 69 _ n cap hu .i64 (i : Int) (by omega) (by omega)]
  have hs : (sizeOf (Tryz.prog.elem 69)).run Tryz.prog x = .ok 193 x := by kernel_rfl
  rw [hs, Result.andThen_ok, sliced]
  simp [show ¬ cap = 0 by omega, Addr.add_mid]
def clr (m : Nat) : List Value := (Builtin.zeroCells (wc (0, z192)).toArray m).toList
theorem length_clr (m : Nat) : (clr m).length = m * 193 := by
  rw [clr, Array.length_toList, size_zeroCells, List.size_toArray, length_wc _ length_z192]
theorem one_clr (m : Nat) : ∀ u ∈ clr m, u.oneCell' = true := by
  intro u hu
  rw [clr, Builtin.zeroCells] at hu
  simp only [Array.toList_map, List.mem_map] at hu
  obtain ⟨q, _, rfl⟩ := hu
  have hs : (wc (0, z192)).toArray.size = 193 := length_wc _ length_z192
  rw [hs]
  have hq : q % 193 < (wc (0, z192)).toArray.size := by rw [hs]; omega
  rw [getElem!_pos (wc (0, z192)).toArray (q % 193) hq]
  exact one_wc (0, z192) _ (by simp)
theorem wpList_clear {ops : Array Oper} {rest : List Oper} {o : Oper} {act : Act} {w : World} {Q : Exit → Act → World → Prop} (hgd : o.guard = none) (x : Operand) (ho : o.op = .call { callee := .builtin .clear, args := #[x], argTypes := #[69] }) (g off m c : Nat) (hm : 0 < m) (hx : act.eval x = .slice (some ⟨g, off, none⟩) m c)
    (ht : w.there g off (m * 193)) (h : wpList Tryz.prog ops Q rest (act.put o.dst (.tuple #[])) (w.setCells g off (clr m))) : wpList Tryz.prog ops Q (o :: rest) act w := by
  have hst := run_storeCells_cells (P := Tryz.prog) g off (clr m) 0 w (fun j hj => by rw [length_clr] at hj; simpa using (ht j hj).1) (fun j hj => by rw [length_clr] at hj; simpa using (ht j hj).2) (one_clr m)
  simp only [Nat.add_zero] at hst
  have hz : (zeroValue 95).run Tryz.prog w = .ok (.agg (wc (0, z192)).toArray) w := by kernel_rfl
  obtain ⟨m', rfl⟩ : ∃ m', m = m' + 1 := ⟨m - 1, by omega⟩
  have hr : (Builtin.clear_ #[69] o.type #[.slice (some ⟨g, off, none⟩) (m' + 1) c]).run Tryz.prog w = .ok (.tuple #[]) (w.setCells g off (clr (m' + 1))) := by
    simp only [Builtin.clear_, List.getElem?_toArray, List.getElem?_cons_zero, Sem.run_bind, run_underlying Tryz.underlying69, Result.andThen_ok, hz, Value.cells, Sem.run_pure]
    rw [show (Builtin.zeroCells (wc (0, z192)).toArray (m' + 1)).toList = clr (m' + 1) from rfl, hst]
    rfl
  refine wpList_plain hgd fun _ hK => ?_
  unfold Oper.wp execOp
  simp only [ho, resolve, invoke, builtin, Sem.run_bind, Sem.run_pure, Result.andThen_ok, List.map_toArray, List.map_cons, List.map_nil, hx, hr]
  exact hK _ _ h
theorem wcs_take (L : List (Nat × List Int)) (h : Lens L) (k : Nat) (hk : k ≤ L.length) : (wcs L).take (k * 193) = wcs (L.take k) := by
  have e : wcs L = wcs (L.take k) ++ wcs (L.drop k) := by
    simp only [wcs]
    rw [← List.flatten_append, ← List.map_append, List.take_append_drop]
  rw [e, List.take_left']
  rw [wcs_len _ (lens_take h k), List.length_take, Nat.min_eq_left hk]
theorem oth_first (i : Nat) (L : List (Nat × List Int)) (k : Nat) (h : fst L i k) : oth i (L.take (k + 1)) = L.take k := by
  have hk := h.1
  rw [oth_succ i L k hk, if_pos (h.2.1 hk), List.append_nil]
  refine oth_all i _ (fun j hj => ?_)
  have hj2 : j < k := by simp at hj; omega
  have := h.2.2 j (by omega) hj2
  simpa using this
theorem Dl.done {w wr : World} {g cap : Nat} {cur : Array Value} {i : Nat} {L : List (Nat × List Int)} (h : Dl w wr g cur i L.length L) (hL : Lens L) (hc : L.length ≤ cap) (hm : cap ≤ maxLen) (hs : cur.size = cap * 193) (hlt : (oth i L).length < L.length) :
    (wr.setCells g ((oth i L).length * 193) (clr (L.length - (oth i L).length))).ownsRow 0 95 193 (.slice (some ⟨g, 0, none⟩) (oth i L).length cap) (oth i L).length (wcs (oth i L)) ∧ Turned (fun k => k = g) w (wr.setCells g ((oth i L).length * 193) (clr (L.length - (oth i L).length))) ∧ wr.there g ((oth i L).length * 193) ((L.length - (oth i L).length) * 193) := by
  obtain ⟨cs, h1, h2, h3, h4⟩ := h.row
  rw [List.take_of_length_le (Nat.le_refl _)] at h3
  have hm1 : L.length * 193 ≤ cap * 193 := Nat.mul_le_mul_right _ hc
  have hsum : (oth i L).length * 193 + (L.length - (oth i L).length) * 193 = L.length * 193 := by rw [← Nat.add_mul, Nat.add_sub_cancel' (by omega)]
  have hcl : cs.toList.length = cap * 193 := by rw [Array.length_toList, h2, hs]
  have hf : (oth i L).length * 193 + (clr (L.length - (oth i L).length)).length ≤ cs.toList.length := by rw [length_clr, hcl]; omega
  have hrow := heap_setCells g _ (clr (L.length - (oth i L).length)) ((oth i L).length * 193) wr cs h1 (by rw [← Array.length_toList]; exact hf)
  refine ⟨⟨by rw [wcs_len _ (lens_oth hL)], .inr ⟨g, cap, _, rfl, Nat.zero_le _, hrow, by omega, hm, ?_, ?_⟩⟩, ?_, there_row h1 (by rw [h2, hs]; omega)⟩
  · rw [List.size_toArray, splice_len _ _ _ hf, hcl]
  · rw [List.toList_toArray]
    unfold splice
    rw [List.take_left' (by rw [List.length_take, hcl]; omega), h3]
  · have hb := but_setCells g (clr (L.length - (oth i L).length)) ((oth i L).length * 193) w wr h.but
    exact ⟨hb.os, hb.tape, hb.output, hb.size, fun k hk hn => hb.block k hk hn⟩
theorem range_all {w : World} {g : Nat} {cs : List Value} {t : TypeId} (h : w.heap[g]? = some (.cells cs.toArray t (0, 0))) : w.rangeAt g 0 cs := fun j v hv => by
  rw [cell_of_row _ _ _ _ _ _ h, Nat.zero_add]
  simpa using hv
theorem range_below {w w' : World} {g o : Nat} {cs : List Value} (h : w.rangeAt g o cs) (hb : Below w.heap.size w w') : w'.rangeAt g o cs := fun j v hv => by
  have := h j v hv
  exact (hb.cell (p := ⟨g, o + j, none⟩) (World.block_lt_of_cell? w _ this)).trans this
set_option maxRecDepth 20000 in
set_option maxHeartbeats 2000000 in
theorem delete_some (w : World) (g cap S i k0 : Nat) (cur : Array Value) (L : List (Nat × List Int)) (hL : Lens L) (hg : w.heap[g]? = some (.cells cur 95 (0, 0))) (hc : L.length ≤ cap) (hm : cap ≤ maxLen) (hs : cur.size = cap * 193) (htk : cur.toList.take (L.length * 193) = wcs L) (hl : L.length < 1000000) (hS : w.cell? ⟨S, 0, none⟩ = some (.int .i64 (i : Int))) (hSg : S ≠ g)
    (HIx : Box (Calls Tryz.prog 59 #[.slice (some ⟨g, 0, none⟩) L.length cap, .func (.func 38) #[] #[.pointer (some ⟨S, 0, none⟩)]] w fun e w' => Below w.heap.size w w' ∧ e = .returned (.int .i64 (k0 : Int)))) (hk : fst L i k0) :
    Calls Tryz.prog 37 #[.slice (some ⟨g, 0, none⟩) L.length cap, .func (.func 38) #[] #[.pointer (some ⟨S, 0, none⟩)]] w fun e w' =>
      e = .returned (.slice (some ⟨g, 0, none⟩) (oth i L).length cap) ∧ w'.ownsRow 0 95 193 (.slice (some ⟨g, 0, none⟩) (oth i L).length cap) (oth i L).length (wcs (oth i L)) ∧ Turned (fun k => k = g) w w' := by
  have hk0 := hk.1
  have hne : ((k0 : Int) == -1) = false := by
    simp
  have HS : Box (∀ wx, But g w wx → wx.cell? ⟨S, 0, none⟩ = some (.int .i64 (i : Int))) := ⟨fun wx hb => but_cell hb hS hSg⟩
  have HK : Box (fst L i k0) := ⟨hk⟩
  have HT : Box (cur.toList.take (L.length * 193) = wcs L) := ⟨htk⟩
  have HG : Box (∀ wx, Below w.heap.size w wx → Dl w wx g cur i (k0 + 1) L) := ⟨fun wx hb => by
    refine ⟨⟨cur, (hb.block g (Array.getElem?_eq_some_iff.1 hg).1).trans hg, rfl, ?_, rfl⟩, But.of_below hb⟩
    rw [oth_first i L k0 hk, List.length_take, Nat.min_eq_left (by omega), ← wcs_take L hL k0 (by omega), ← htk, List.take_take, Nat.min_eq_left (Nat.mul_le_mul_right _ (by omega))]⟩
  have HC : Box (L.length ≤ cap ∧ cap ≤ maxLen ∧ cur.size = cap * 193) := ⟨hc, hm, hs⟩
  have Ho : Box ((oth i (L.take (k0 + 1))).length = k0) := ⟨by rw [oth_first i L k0 hk, List.length_take]; omega⟩
  have hl2 : L.length < 9223372036854775807 := by omega
  clear hg htk hS hk hc hm hs
  go_enter Tryz.func37, Tryz.ntmps37
  go_wp2_with (go_at_call 59; refine HIx.out.mono ?_; rintro e w1 ⟨hb1, rfl⟩; have D1 : Box _ := ⟨HG.out _ hb1⟩; clear hb1)
  have h0 : (oth i (L.take (k0 + 1))).length < k0 + 1 := by rw [Ho.out]; omega
  have HJ : Box (∀ j, k0 + 1 ≤ j → (oth i (L.take j)).length < j) := ⟨fun j hj => by
    obtain ⟨m, rfl⟩ : ∃ m, j = k0 + 1 + m := ⟨j - (k0 + 1), by omega⟩
    clear hj
    induction m with
    | zero => exact h0
    | succ m ih =>
      by_cases hlt : k0 + 1 + m < L.length
      · rw [← Nat.add_assoc, oth_succ i L _ hlt, List.length_append]
        split <;> simp <;> omega
      · have := oth_len i (L.take (k0 + 1 + (m + 1)))
        rw [List.length_take] at this
        omega⟩
  clear HG h0
  go_loopw [5, 6] (fun iv jv wr => ∃ j : Nat, j ≤ L.length ∧ k0 + 1 ≤ j ∧ jv = .int .i64 j ∧ iv = .int .i64 ((oth i (L.take j)).length : Int) ∧ Box (Dl w wr g cur i j L)) (fun _ jv _ => L.length - (intOf jv).toNat)
  case atStart => exact ⟨k0 + 1, by omega, Nat.le_refl _, by simp, by rw [Ho.out], D1⟩
  case round =>
    clear D1
    obtain ⟨j, hj, hkj, rfl, rfl, HI⟩ := hrel
    have hoj := HJ.out j hkj
    by_cases hlt : j < L.length
    · have hrj : Box (wr.rangeAt g (j * 193) (wc L[j])) := ⟨HI.out.at_ hL hlt HT.out⟩
      have hlen := hL L[j] (List.getElem_mem hlt)
      have hz : (wc (0, z192)).toArray.size = (wc L[j]).length := by rw [length_wc _ hlen]; exact length_wc _ length_z192
      have HN : Box _ := ⟨laid_new wr (wc (0, z192)).toArray 95 (wc L[j]) hz⟩
      have Hi : Box ((Tryz.prog.info? 95).map (·.size) = some (wc L[j]).length) := ⟨by rw [length_wc _ hlen]; exact info84⟩
      have Hi2 : Box ((Tryz.prog.info? 95).map (·.size) = some (wc L[j]).toArray.size) := ⟨by rw [List.size_toArray, length_wc _ hlen]; exact info84⟩
      have Ht : Box ((wr.alloc (.cells (wc (0, z192)).toArray 95)).there wr.heap.size 0 (wc L[j]).toArray.size) := ⟨there_row (al_at rfl) (by rw [hz]; simp)⟩
      have HD : Box (∀ wx, Below wr.heap.size wr wx → Calls Tryz.prog 38 #[.agg (wc L[j]).toArray, .pointer (some ⟨S, 0, none⟩)] wx fun e w' => e = .returned (.bool (decide (L[j].1 = i))) ∧ Below wx.heap.size wx w') := ⟨fun wx hb => del_any wx L[j].1 i S L[j].2 (HS.out wx (HI.out.but.trans (But.of_below hb)))⟩
      have hfit : j * 193 ≤ cur.size := by rw [HC.out.2.2]; exact Nat.mul_le_mul_right _ (by have := HC.out.1; omega)
      have HM : Box (∀ wx, Below wr.heap.size wr wx → L[j].1 ≠ i → Dl w (wx.setCells g ((oth i (L.take j)).length * 193) (wc L[j]).toArray.toList) g cur i (j + 1) L ∧ (oth i (L.take (j + 1))).length = (oth i (L.take j)).length + 1) := ⟨fun wx hb hne => HI.out.move hL hb hlt hoj hfit hne⟩
      have HSk : Box (∀ wx, Below wr.heap.size wr wx → L[j].1 = i → Dl w wx g cur i (j + 1) L ∧ oth i (L.take (j + 1)) = oth i (L.take j)) := ⟨fun wx hb he => HI.out.skip hb hlt he⟩
      have HTg : Box (∀ wx, Below wr.heap.size wr wx → wx.there g ((oth i (L.take j)).length * 193) (wc L[j]).toArray.size) := ⟨fun wx hb => by
        obtain ⟨cs, h1, h2, _⟩ := HI.out.row
        refine there_row ((hb.block g (Array.getElem?_eq_some_iff.1 h1).1).trans h1) ?_
        have hm : ((oth i (L.take j)).length + 1) * 193 ≤ j * 193 := Nat.mul_le_mul_right _ hoj
        rw [List.size_toArray, length_wc _ hlen, h2]
        omega⟩
      obtain ⟨x, hx⟩ : ∃ x, L[j] = x := ⟨_, rfl⟩
      rw [hx] at hrj HN Hi Hi2 Ht HD HM HSk HTg
      generalize hon : (oth i (L.take j)).length = on at HM HTg hoj ⊢
      have Hon : Box ((oth i (L.take j)).length = on) := ⟨hon⟩
      clear hx hz hlen hfit HI hon HJ HT HS HIx
      by_cases hp : x.1 = i
      · rw [show decide (x.1 = i) = true by simpa using hp] at HD
        go_wp2_with (first
          | (go_at_call 38; refine (HD.out _ HB.out.1).mono ?_; rintro e w3 ⟨rfl, hb3⟩; have B3 : Box (Below wr.heap.size wr w3) := ⟨HB.out.1.trans (hb3.mono HB.out.1.size)⟩; clear hb3)
          | (refine wpList_load_mid rfl 95 _ rfl wr.heap.size 0 rfl (wc x) _ HB.out.2 Tryz.underlying95 rfl Hi.out ?_)
          | (refine wpList_load_mid rfl 95 _ rfl g (j * 193) rfl (wc x) _ hrj.out Tryz.underlying95 rfl Hi.out ?_)
          | (refine wpList_run rfl _ _ (exec_alloc 95 rfl _ zero84) ?_)
          | (refine wpList_store_mid rfl 95 _ _ rfl wr.heap.size 0 (wc x).toArray rfl rfl Ht.out Hi2.out (all_oneCell_toArray (one_wc _)) ?_; have HB : Box (Below wr.heap.size wr ((wr.alloc (.cells (wc (0, z192)).toArray 95)).setCells wr.heap.size 0 (wc x).toArray.toList) ∧ ((wr.alloc (.cells (wc (0, z192)).toArray 95)).setCells wr.heap.size 0 (wc x).toArray.toList).rangeAt wr.heap.size 0 (wc x)) := ⟨HN.out.1, range_all HN.out.2.2⟩; generalize (wr.alloc (.cells (wc (0, z192)).toArray 95)).setCells wr.heap.size 0 (wc x).toArray.toList = wx at HB ⊢; clear HN Ht))
        obtain ⟨q1, q2⟩ := HSk.out w3 B3.out hp
        exact ⟨⟨j + 1, by omega, by omega, by simp, by rw [q2, Hon.out], ⟨q1⟩⟩, by simp [intOf]; omega⟩
      · rw [show decide (x.1 = i) = false by simpa using hp] at HD
        go_wp2_with (first
          | (refine wpList_store_mid rfl 95 _ _ rfl g (on * 193) (wc x).toArray rfl rfl (HTg.out _ B3.out) Hi2.out (all_oneCell_toArray (one_wc _)) ?_; have HF : Box _ := ⟨HM.out _ B3.out hp⟩; generalize w3.setCells g (on * 193) (wc x).toArray.toList = w4 at HF ⊢; clear HM)
          | (refine wpList_load_mid rfl 95 _ rfl wr.heap.size 0 rfl (wc x) _ R3.out Tryz.underlying95 rfl Hi.out ?_)
          | (go_at_call 38; refine (HD.out _ HB.out.1).mono ?_; rintro e w3 ⟨rfl, hb3⟩; have B3 : Box (Below wr.heap.size wr w3) := ⟨HB.out.1.trans (hb3.mono HB.out.1.size)⟩; have R3 : Box (w3.rangeAt wr.heap.size 0 (wc x)) := ⟨range_below HB.out.2 hb3⟩; clear hb3 HB)
          | (refine wpList_load_mid rfl 95 _ rfl wr.heap.size 0 rfl (wc x) _ HB.out.2 Tryz.underlying95 rfl Hi.out ?_)
          | (refine wpList_load_mid rfl 95 _ rfl g (j * 193) rfl (wc x) _ hrj.out Tryz.underlying95 rfl Hi.out ?_)
          | (refine wpList_run rfl _ _ (exec_alloc 95 rfl _ zero84) ?_)
          | (refine wpList_store_mid rfl 95 _ _ rfl wr.heap.size 0 (wc x).toArray rfl rfl Ht.out Hi2.out (all_oneCell_toArray (one_wc _)) ?_; have HB : Box (Below wr.heap.size wr ((wr.alloc (.cells (wc (0, z192)).toArray 95)).setCells wr.heap.size 0 (wc x).toArray.toList) ∧ ((wr.alloc (.cells (wc (0, z192)).toArray 95)).setCells wr.heap.size 0 (wc x).toArray.toList).rangeAt wr.heap.size 0 (wc x)) := ⟨HN.out.1, range_all HN.out.2.2⟩; generalize (wr.alloc (.cells (wc (0, z192)).toArray 95)).setCells wr.heap.size 0 (wc x).toArray.toList = wx at HB ⊢; clear HN Ht))
        exact ⟨⟨j + 1, by omega, by omega, by simp, by rw [HF.out.2]; simp, ⟨HF.out.1⟩⟩, by simp [intOf]; omega⟩
    · obtain rfl : j = L.length := by omega
      rw [List.take_of_length_le (Nat.le_refl _)] at hoj ⊢
      have HX : Box _ := ⟨HI.out.done hL HC.out.1 HC.out.2.1 HC.out.2.2 hoj⟩
      have hc := HC.out.1
      have hs1 := slice65_lo g L.length cap (oth i L).length hoj hc HC.out.2.1
      have hs2 := slice65_hi g L.length cap (oth i L).length (by omega) hc (by omega)
      clear HI HJ HT HS HIx HC HK Ho
      generalize hon : (oth i L).length = on at hoj HX hs1 hs2 ⊢
      have Hon : Box ((oth i L).length = on) := ⟨hon⟩
      clear hon
      go_wp2_with (refine wpList_clear rfl _ rfl g (on * 193) (L.length - on) (cap - on) (by omega) rfl HX.out.2.2 ?_)
      go_ret
      rw [Hon.out]
      exact ⟨rfl, HX.out.1, HX.out.2.1⟩
theorem least {p : Nat → Prop} (n : Nat) (h : p n) : ∃ k, p k ∧ ∀ j, j < k → ¬ p j := by
  induction n using Nat.strongRecOn with
  | ind n ih =>
    by_cases hx : ∃ j, j < n ∧ p j
    · obtain ⟨j, hj, hp⟩ := hx
      exact ih j hj hp
    · exact ⟨n, h, fun j hj hp => hx ⟨j, hj, hp⟩⟩
theorem fst_unique {L : List (Nat × List Int)} {i k q : Nat} (h : fst L i k) (h2 : fst L i q) : k = q := by
  rcases Nat.lt_trichotomy k q with hl | hl | hl
  · exact absurd (h.2.1 h.1) (h2.2.2 k h.1 hl)
  · exact hl
  · exact absurd (h2.2.1 h2.1) (h.2.2 q h2.1 hl)
set_option maxRecDepth 20000 in
set_option maxHeartbeats 2000000 in
theorem delete_no (w : World) (a : Option Addr) (len cap S : Nat)
    (HIx : Box (Calls Tryz.prog 59 #[.slice a len cap, .func (.func 38) #[] #[.pointer (some ⟨S, 0, none⟩)]] w fun e w' => Below w.heap.size w w' ∧ e = .returned (.int .i64 (-1)))) :
    Calls Tryz.prog 37 #[.slice a len cap, .func (.func 38) #[] #[.pointer (some ⟨S, 0, none⟩)]] w fun e w' => e = .returned (.slice a len cap) ∧ Below w.heap.size w w' := by
  go_enter Tryz.func37, Tryz.ntmps37
  go_wp2_with (go_at_call 59; refine HIx.out.mono ?_; rintro e w1 ⟨hb1, rfl⟩; have B1 : Box _ := ⟨hb1⟩; clear hb1)
  go_ret
  exact ⟨rfl, B1.out⟩
theorem own_ways {w : World} {a : Option Addr} {cap : Nat} {L : List (Nat × List Int)} (hL : Lens L) (h : w.ownsRow 0 95 193 (.slice a L.length cap) L.length (wcs L)) : Ways w.heap.size w a L := by
  intro h0
  rcases h.2 with ⟨h1, h2⟩ | ⟨g, cap', cur, h1, hb, hg, _⟩
  · omega
  · simp only [Value.slice.injEq, true_and] at h1
    obtain ⟨rfl, rfl⟩ := h1
    refine ⟨g, rfl, (Array.getElem?_eq_some_iff.1 hg).1, fun k hk j v hv => ?_⟩
    have hj : j < 193 := by
      have := (List.getElem?_eq_some_iff.1 hv).1
      rw [length_wc _ (hL _ (List.getElem_mem hk))] at this
      exact this
    have := h.cells (g := g) rfl (193 * k + j) v (by
      rw [wcs, flat_at _ 193 (fun x hx => by obtain ⟨y, hy, rfl⟩ := List.mem_map.1 hx; exact length_wc y (hL y hy)) k (by simpa using hk) j hj]
      simpa using hv)
    rw [Addr.add_lit, Nat.zero_add, Nat.mul_comm] at this
    exact this
theorem delete_any (w : World) (v : Value) (S i : Nat) (L : List (Nat × List Int)) (hL : Lens L) (hown : w.ownsRow 0 95 193 v L.length (wcs L)) (hl : L.length < 1000000) (hS : w.cell? ⟨S, 0, none⟩ = some (.int .i64 (i : Int))) (hSg : v.ownBlock ≠ some S) :
    Calls Tryz.prog 37 #[v, .func (.func 38) #[] #[.pointer (some ⟨S, 0, none⟩)]] w fun e w' =>
      ∃ v', e = .returned v' ∧ w'.ownsRow 0 95 193 v' (oth i L).length (wcs (oth i L)) ∧ Turned (fun k => v.ownBlock = some k) w w' ∧ ∀ k, v'.ownBlock = some k → v.ownBlock = some k := by
  obtain ⟨a, cap, rfl⟩ := own_form2 hown
  have hix := index_any w a cap S i L hL (own_ways hL hown) hl hS
  by_cases hall : ∀ j (h : j < L.length), L[j].1 ≠ i
  · refine (delete_no w a L.length cap S ⟨hix.mono ?_⟩).mono ?_
    · rintro e w' ⟨h1, ⟨h2, _⟩ | ⟨k, _, h3⟩⟩
      · exact ⟨h1, h2⟩
      · exact absurd (h3.2.1 h3.1) (hall k h3.1)
    · rintro e w' ⟨rfl, hb⟩
      rw [oth_all i L hall]
      exact ⟨_, rfl, own_same hown (fun k hk => hb.block k (hown.lt k hk).2), Turned.of_below hb, fun k hk => hk⟩
  · obtain ⟨k0, hk0⟩ : ∃ k, fst L i k := by
      have hex : ∃ j, ∃ h : j < L.length, L[j].1 = i := by
        apply Classical.byContradiction
        intro hn
        exact hall (fun j h e => hn ⟨j, h, e⟩)
      obtain ⟨j, hj⟩ := hex
      obtain ⟨k, ⟨hk1, hk2⟩, hk3⟩ := least (p := fun j => ∃ h : j < L.length, L[j].1 = i) j hj
      exact ⟨k, hk1, fun _ => hk2, fun q hq hqk e => hk3 q hqk ⟨hq, e⟩⟩
    have hpos : 0 < L.length := by have := hk0.1; omega
    rcases hown.2 with ⟨_, h0⟩ | ⟨g, cap', cur, h1, _, hg, hc, hm, hs, htk⟩
    · omega
    · simp only [Value.slice.injEq, true_and] at h1
      obtain ⟨rfl, rfl⟩ := h1
      have hSg' : S ≠ g := fun e => hSg (by rw [e]; rfl)
      refine (delete_some w g cap S i k0 cur L hL hg hc hm hs htk hl hS hSg' ⟨hix.mono ?_⟩ hk0).mono ?_
      · rintro e w' ⟨h1, ⟨_, h3⟩ | ⟨k, h2, h3⟩⟩
        · exact absurd (hk0.2.1 hk0.1) (h3 k0 hk0.1)
        · rw [fst_unique h3 hk0] at h2
          exact ⟨h1, h2⟩
      · rintro e w' ⟨rfl, h2, h3⟩
        exact ⟨_, rfl, h2, ⟨h3.os, h3.tape, h3.output, h3.size, fun k hk hn => h3.block k hk (fun e => hn (by rw [e]; rfl))⟩, fun k hk => hk⟩
end Go.Proofs.YthbbijaikcmaeaaGreatDoor.Disk
