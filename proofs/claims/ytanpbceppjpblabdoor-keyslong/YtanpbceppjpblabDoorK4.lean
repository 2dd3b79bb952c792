/-
  A byte appended to a string's bytes; nothing of the program is said here but the types' numbers.
-/
import Derived.Test.YtanpbceppjpblabDoorK3
import Derived.Test.YtanpbceppjpblabDoorP6
import Derived.Laws.IdiomStrings
import Derived.Deep.RegionLaw
namespace Go.Proofs.YtanpbceppjpblabDoor
set_option linter.unusedVariables false
open Go.RowKit Plain

theorem heap_setCell_fr (w : World) (g i : Nat) (cs : Array Value) (t : TypeId) (fr : Nat × Nat) (v : Value) (hg : w.heap[g]? = some (.cells cs t fr)) :
    (w.setCell ⟨g, i, none⟩ v).heap[g]? = some (.cells (cs.setIfInBounds i v) t fr) := by
  obtain ⟨h1, h2⟩ := Array.getElem?_eq_some_iff.1 hg
  simp only [World.setCell, Array.getElem?_modify, if_true, hg, Option.map_some]
  rfl
theorem app_lbl (g n cap : Nat) (cs : Array Value) (fr : Nat × Nat) (L : List Int) (z : Int) (b : Nat) (w : World) (hg : w.heap[g]? = some (.cells cs 5 fr)) (hfr : ∀ i, i < cap → w.frozen? ⟨g, i, none⟩ = false) (hcs : cs.size = cap) (hL : L.length = n) (hB : Byt L) (hz : 0 ≤ z ∧ z ≤ 255)
    (hn : n ≤ cap) (hcap : cap ≤ maxLen) (hc : ∀ i, i < n → cs[i]? = some (.int .u8 (L.getD i 0))) (hnew : w.cell? ⟨b, 0, none⟩ = some (.int .u8 z)) (hnl : n ≤ 1000) (B : Nat) (hBg : B ≤ g) (w0 : World) (hb : Below B w0 w) (hbs : B ≤ w.heap.size) (ty : TypeId) :
    ∃ a' c' w', (Builtin.append_ #[22, 22] ty #[.slice (some ⟨g, 0, none⟩) n cap, .slice (some ⟨b, 0, none⟩) 1 1]).run Tryd.prog w = .ok (.slice (some a') (n + 1) c') w' ∧ Bytes w' (some a') (n + 1) (L ++ [z]) ∧ n + 1 ≤ c' ∧ c' ≤ maxLen ∧ Below B w0 w' := by
  obtain ⟨i0, hi, hz0, hz1, hz2⟩ := info_parts info5
  have hLz : Byt (L ++ [z]) := byt_app _ _ hB (byt_cons _ _ hz byt_nil)
  have hnews : ∀ j u, [Value.int .u8 z][j]? = some u → w.cell? ((⟨b, 0, none⟩ : Addr).add j) = some u := by
    intro j u hj
    cases j with
    | zero => rw [Addr.add_lit]; simp at hj; rw [← hj]; exact hnew
    | succ j => simp at hj
  have hglt : g < w.heap.size := (Array.getElem?_eq_some_iff.1 hg).1
  by_cases hroom : n + 1 ≤ cap
  · have hrun := run_append_room_cells (P := Tryd.prog) w 22 ty 5 i0 Tryd.underlying22 hi g 0 n cap ⟨b, 0, none⟩ 1 1 [.int .u8 z] (by rw [hz1]; rfl) hnews (oneCell_int z) hroom
      (fun j hj => by
        simp at hj
        subst hj
        rw [hz1, cell_of_row _ _ _ _ _ _ hg]
        have : n < cs.size := by omega
        simp [this])
      (fun j hj => by
        simp at hj
        subst hj
        rw [hz1]
        exact hfr _ (by omega))
    refine ⟨_, _, _, hrun, ⟨by simp [hL], hLz, fun _ => ⟨g, 0, rfl, ?_, fun i hi => ?_⟩⟩, hroom, hcap, ?_⟩
    · simpa [World.setCells] using hglt
    · rw [World.setCells, World.setCells, hz1, Nat.zero_add, Nat.mul_one, Nat.zero_add]
      rw [cell_of_row _ _ _ _ _ _ (heap_setCell_fr w g n _ 5 _ _ hg)]
      by_cases he : i = n
      · subst he
        have h1 : i < cs.size := by omega
        rw [Array.getElem?_setIfInBounds_self_of_lt h1, getD_app, if_neg (by omega), hL]
        simp
      · rw [Array.getElem?_setIfInBounds_ne (by omega), hc i (by omega), getD_app_left _ _ _ (by omega)]
    · rw [World.setCells, World.setCells]
      exact ⟨hb.os, hb.tape, hb.output, by simpa using hb.size, fun k hk => by rw [heap_setCell_other w ⟨g, _, none⟩ k _ (fun e => by simp at e; omega)]; exact hb.block k hk⟩
  · have hrun := run_append_grow (P := Tryd.prog) w 22 ty 5 i0 (.int .u8 0) Tryd.underlying22 hi hz0 ⟨g, 0, none⟩ n cap (L.map (Value.int .u8)) (by rw [hz1]; simp [hL])
      (fun j v hj => by
        have hlt : j < L.length := by simpa using (List.getElem?_eq_some_iff.1 hj).1
        rw [Addr.add_lit, Nat.zero_add, cell_of_row _ _ _ _ _ _ hg, hc j (by omega), ← hj]
        simp [hlt])
      ⟨b, 0, none⟩ 1 1 [.int .u8 z] (by rw [hz1]; rfl) hnews (by omega) (by omega) (by
        rw [hz2]
        exact growslice_fits (by omega) (by omega))
    have hge := grownCap_ge w (n + 1) cap 5
    have hle := grownCap_le_maxLen w (n + 1) cap 5 (by unfold maxLen; omega)
    refine ⟨_, _, _, hrun, ⟨by simp [hL], hLz, fun _ => ⟨w.heap.size, 0, rfl, by simp, fun i hi => ?_⟩⟩, hge, hle, (hb.drew.alloc hbs _)⟩
    rw [cell_of_row _ _ _ _ _ _ (al_at (o := .cells _ 5) (show w.drew.heap.size = w.heap.size from rfl)), Nat.zero_add]
    have h1 : i < (L ++ [z]).length := by simp [hL]; omega
    have e : (L.map (Value.int .u8)).toArray ++ [Value.int .u8 z].toArray = u8s (L ++ [z]) := by simp [u8s]
    rw [e, Array.getElem?_append_left (by rw [size_u8s]; exact h1), u8s, List.getElem?_toArray, List.getElem?_map, getD_of_lt _ _ h1]
    rfl
theorem wpList_applbl {ops : Array Oper} {rest : List Oper} {o : Oper} {act : Act} {w v1 : World} {Q : Exit → Act → World → Prop} (hgd : o.guard = none) (s x : Operand)
    (ho : o.op = .call { callee := .builtin .append, args := #[s, x], argTypes := #[22, 22] }) (S : ByteArray) (z : Int) (hz : 0 ≤ z ∧ z ≤ 255) (hS : S.size ≤ 1000) (g g2 : Nat)
    (hs : act.eval s = .slice (some ⟨g, 0, none⟩) S.size (grownCap w S.size 0 5)) (hx : act.eval x = .slice (some ⟨g2, 0, none⟩) 1 1) (hg' : g = w.heap.size) (hg2 : g2 = w.heap.size + 1)
    (hv : v1 = (w.drew.alloc (.cells (bytesRow S (grownCap w S.size 0 5)) 5 ((bytesRow S (grownCap w S.size 0 5)).size, (bytesRow S (grownCap w S.size 0 5)).size + 1))).alloc (.cells #[.int .u8 z] 5))
    (h : ∀ (a' : Addr) (c' : Nat) (w' : World), Box ((⟨some a', S.size + 1, c', nums S ++ [z]⟩ : Pc).ok w' ∧ Below w.heap.size w w') → wpList Tryd.prog ops Q rest (act.put o.dst (.slice (some a') (S.size + 1) c')) w') : wpList Tryd.prog ops Q (o :: rest) act v1 := by
  subst hv
  subst hg'
  subst hg2
  obtain ⟨q, hq⟩ : ∃ q, q = (bytesRow S (grownCap w S.size 0 5)).size := ⟨_, rfl⟩
  rw [← hq]
  have hge := grownCap_ge w S.size 0 5
  have hle := grownCap_le_maxLen w S.size 0 5 (by unfold maxLen; omega)
  have hsz : (bytesRow S (grownCap w S.size 0 5)).size = grownCap w S.size 0 5 := by
    have e : S.data.size = S.size := rfl
    simp [bytesRow]
    omega
  have hg : ((w.drew.alloc (.cells (bytesRow S (grownCap w S.size 0 5)) 5 (q, q + 1))).alloc (.cells #[.int .u8 z] 5)).heap[w.heap.size]? = some (.cells (bytesRow S (grownCap w S.size 0 5)) 5 (q, q + 1)) := al_old (al_at rfl)
  have hn := length_nums S
  obtain ⟨a', c', w', hrun, hby, h1, h2, hb⟩ := app_lbl w.heap.size S.size (grownCap w S.size 0 5) _ (q, q + 1) (nums S) z (w.heap.size + 1) _ hg
    (fun i hi => by
      simp only [World.frozen?, hg]
      simp
      omega) hsz hn (byt_nums S) hz hge hle
    (fun i hi => by
      have hd : i < S.data.size := hi
      rw [bytesRow, Array.getElem?_append_left (by simpa using hd)]
      have e : (nums S).getD i 0 = ((S.data[i]).toNat : Int) := by
        simp only [nums, List.getD, List.getElem?_map, Array.getElem?_toList, Array.getElem?_eq_getElem hd]
        rfl
      rw [e, Array.getElem?_map, Array.getElem?_eq_getElem hd]
      rfl)
    (by rw [cell_of_row _ _ _ _ _ _ (al_at (o := .cells #[.int .u8 z] 5) (by simp))]; simp) hS w.heap.size (Nat.le_refl _) w (((Below.refl w.heap.size w).drew.alloc (Nat.le_refl _) _).alloc (by simp) _) (by simp; omega) o.type
  refine wpList_plain hgd fun _ hK => ?_
  unfold Oper.wp execOp
  simp only [ho, resolve, invoke, builtin, Sem.run_bind, Sem.run_pure, Result.andThen_ok, List.map_toArray, List.map_cons, List.map_nil, hs, hx, hrun]
  unfold maxLen at h2
  exact hK _ _ (h a' c' w' ⟨⟨hby, h1, by show c' ≤ 9223372036854775807; omega⟩, hb⟩)
end Go.Proofs.YtanpbceppjpblabDoor
