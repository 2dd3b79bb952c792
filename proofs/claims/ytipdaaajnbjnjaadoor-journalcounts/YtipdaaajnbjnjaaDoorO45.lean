/-
  What JournalCounts leans on: Append of none, places that are not written, what an image holds.
-/
import Derived.Test.YtipdaaajnbjnjaaDoorO44
import Derived.Test.YtipdaaajnbjnjaaDoorO36
import Derived.Test.YtipdaaajnbjnjaaDoorO16
namespace Go.Proofs.YtipdaaajnbjnjaaDoor
set_option maxRecDepth 100000
set_option linter.unusedVariables false
open Go.RowKit Plain
attribute [local go_sem] Oper.semAt_some
theorem append_nil (a : Option Addr) (len cap : Nat) (w : World) : Calls Tryd.prog 22 #[.pointer none, .slice a len cap] w fun e w' => e = .returned (.tuple #[.agg (sa zs), .int .i64 1]) ∧ Below w.heap.size w w' := by
  obtain ⟨B, hB⟩ : ∃ B, w.heap.size = B := ⟨_, rfl⟩
  obtain ⟨w1, hw1⟩ : ∃ w1, (w.alloc (.cells #[.pointer none] 39)).alloc (.cells (sa zs) 26) = w1 := ⟨_, rfl⟩
  have hb1 : Below w.heap.size w w1 := by rw [← hw1]; exact ((Below.refl _ _).alloc (Nat.le_refl _) _).alloc (by simp) _
  have k1 : w1.heap[B]? = some (.cells #[.pointer none] 39 (0, 0)) := by rw [← hw1]; exact al_old (al_at hB)
  have k2 : w1.heap[B + 1]? = some (.cells (sa zs) 26 (0, 0)) := by rw [← hw1]; exact al_at (by simp [hB])
  have HIZ : Box ((Tryd.prog.info? 26).map (·.size) = some (sa zs).size) := ⟨by rw [size_sa okS_zs]; exact infoSt⟩
  have HB : Box (w.heap.size = B ∧ Below w.heap.size w w1 ∧ w.heap.size ≤ B + 1) := ⟨hB, hb1, by omega⟩
  have hs2 : (w.alloc (.cells #[.pointer none] 39)).heap.size = B + 1 := by simp [hB]
  have c1 : w1.cell? ⟨B, 0, none⟩ = some (.pointer none) := by rw [cell_of_row _ _ _ _ _ _ k1]; rfl
  have HR : Box _ := ⟨k2⟩
  clear hb1 k1 k2 hB
  go_enter Tryd.func22, Tryd.ntmps22
  go_upto_region 1 with (refine atAlloc _ ?_; refine wpList_run rfl _ _ (exec_alloc 26 rfl _ zeroSt) ?_)
  (try rw [hs2])
  (try simp only [HB.out.1])
  clear hs2 hw1
  go_wp2_with (first
    | (go_at_call 38; refine (none_nil _).mono ?_; rintro e x1 ⟨rfl, rfl⟩)
    | (refine atBuild _ ?_; refine wpList_run rfl _ _ (exec_built 26 [] rfl [] rfl _ built_St0) ?_)
    | (refine atStore _ ?_; refine wpList_store_row rfl 26 _ _ rfl (B + 1) (sa zs) rfl rfl 26 (sa zs) HR.out HIZ.out rfl (all_sa zs) ?_))
  refine bodyPost_ret (results_row2 (t := 4) (u := 5) rfl _ Tryd.underlying26 rfl _ _ (B + 1) (sa zs) HIZ.out rfl (setRow_heap _ _ _ _ _ _ HR.out)) rfl ?_
  exact ⟨rfl, below_but HB.out.2.1 (but_setRow _ _ _) HB.out.2.2 HB.out.2.1.size⟩
theorem built_St2 : Tryd.prog.built 26 [(1, .int .u64 1)] = some (sa ⟨0, 1, z32⟩) := by kernel_rfl
/-- A place that is not written stays. -/
theorem lay_no (W : List (Nat × List Int)) (pl : Nat → List Int) (q : Nat) (h : q ∉ W.map Prod.fst) : Disk.lay W pl q = pl q := by
  rw [Disk.lay_get]
  have : Disk.lastOf W q = none := by
    unfold Disk.lastOf
    rw [Option.map_eq_none_iff, List.find?_eq_none]
    intro x hx e
    have e' : x.1 = q := by simpa using e
    exact h (List.mem_map.2 ⟨x, List.mem_reverse.1 hx, e'⟩)
  rw [this]
  rfl
theorem mod_ne (s c i x k : Nat) (h1 : i < c) (h2 : c + x < k) : (s + c + x) % k ≠ (s + i) % k := by
  intro e
  have hk : 0 < k := by omega
  have h3 : (s + c + x) % k = ((s + i) % k + (c + x - i)) % k := by
    rw [Nat.mod_add_mod]
    congr 1
    omega
  rw [h3] at e
  have h4 := Nat.mod_lt (s + i) hk
  obtain ⟨r, hr⟩ : ∃ r, (s + i) % k = r := ⟨_, rfl⟩
  rw [hr] at e h4
  obtain ⟨t, ht⟩ : ∃ t, c + x - i = t := ⟨_, rfl⟩
  have ht1 : 0 < t := by omega
  have ht2 : t < k := by omega
  rw [ht] at e
  rcases Nat.lt_or_ge (r + t) k with h | h
  · rw [Nat.mod_eq_of_lt h] at e
    omega
  · rw [Nat.mod_eq_sub_mod h, Nat.mod_eq_of_lt (by omega)] at e
    omega
/-- Rows that an image told: where each lies, and what it holds. -/
structure Img2 (y : World) (B g n : Nat) (pl : Nat → List Int) : Prop where
  lo : B ≤ g
  gl : g < y.heap.size
  each : ∀ q, q < n → ∃ a c, y.cell? ⟨g, q, none⟩ = some (.slice a 192 c) ∧ Bytes y a 192 (pl q) ∧ c ≤ maxLen ∧ ∀ ad, a = some ad → B ≤ ad.block ∧ ad.block < y.heap.size
theorem Img2.keep {y z : World} {B g n : Nat} {pl : Nat → List Int} (h : Img2 y B g n pl) (hz : y.heap.size ≤ z.heap.size) (hs : ∀ b, B ≤ b → b < y.heap.size → z.heap[b]? = y.heap[b]?) : Img2 z B g n pl := by
  refine ⟨h.lo, Nat.lt_of_lt_of_le h.gl hz, fun q hq => ?_⟩
  obtain ⟨a, c, h1, h2, h3, h4⟩ := h.each q hq
  refine ⟨a, c, (World.cell?_of_block (hs g h.lo h.gl)).trans h1, ⟨h2.1, h2.2.1, fun hp => ?_⟩, h3, fun ad e => ⟨(h4 ad e).1, Nat.lt_of_lt_of_le (h4 ad e).2 hz⟩⟩
  obtain ⟨b, o, e, hlt, hc⟩ := h2.2.2 hp
  refine ⟨b, o, e, Nat.lt_of_lt_of_le hlt hz, fun i hi => ?_⟩
  have hb := h4 ⟨b, o, none⟩ e
  exact (World.cell?_of_block (hs b hb.1 hb.2)).trans (hc i hi)
theorem image_v {w0 w : World} {D : Nat} {fp : Nat → Prop} {d : Disk.Dk} (C : Disk.Cx w0 w D fp d) :
    Calls Tryd.prog 26 #[.pointer (some ⟨D, 0, none⟩)] w fun e w' => ∃ g, e = .returned (.slice (some ⟨g, 0, none⟩) d.n d.n) ∧ Below w.heap.size w w' ∧ Img2 w' w.heap.size g d.n d.pl := by
  obtain ⟨P, uv, ov, h1, _⟩ := C.is
  have hpl := h1.hpl
  refine (Disk.image_any w D P uv ov d h1).mono ?_
  rintro e w' ⟨g, L, rfl, h⟩
  have hrow := h.row
  rw [Nat.sub_self] at hrow
  have hnil : Disk.nils 0 = [] := rfl
  rw [hnil, List.append_nil] at hrow
  refine ⟨g, rfl, h.bel, h.lo, (Array.getElem?_eq_some_iff.1 hrow).1, fun q hq => ?_⟩
  have hl := h.len
  have hq' : q < L.length := by omega
  obtain ⟨ho, hb⟩ := h.each q hq'
  obtain ⟨a, c, hv⟩ := own_form2 ho
  rw [hv] at ho hb
  refine ⟨a, c, ?_, own_bytes ho (hpl q).2, (own_cap2 ho).2, fun ad e => ?_⟩
  · rw [cell_of_row _ _ _ _ _ _ hrow, List.getElem?_toArray, List.getElem?_eq_getElem hq', hv]
  · subst e
    rcases ho.2 with ⟨h3, _⟩ | ⟨g', cap', cur, h3, _, hg', _⟩
    · cases h3
    · simp only [Value.slice.injEq, Option.some.injEq, true_and] at h3
      obtain ⟨rfl, rfl⟩ := h3
      exact ⟨by have := hb g' rfl; have := h.lo; show w.heap.size ≤ g'; omega, (Array.getElem?_eq_some_iff.1 hg').1⟩
end Go.Proofs.YtipdaaajnbjnjaaDoor
