/-
  What slices.Clone, Ops and Image of package disk answer, and the bytes that the statements write.
-/
import Derived.Test.YtlokhbkjkobmaaaZA
namespace Go.Proofs.Ytlokhbkjkobmaaa
set_option linter.unusedVariables false
open Go.RowKit Plain

theorem ops_none (w : World) : Calls Try.prog 27 #[.pointer none] w fun e w' => e = .returned (.slice none 0 0) ∧ w = w' := by
  go_enter Try.func27, Try.ntmps27
  go_wp2
  go_ret
  exact ⟨rfl, rfl⟩
theorem image_none (w : World) : Calls Try.prog 14 #[.pointer none] w fun e w' => e = .returned (.slice none 0 0) ∧ w = w' := by
  go_enter Try.func14, Try.ntmps14
  go_wp2
  go_ret
  exact ⟨rfl, rfl⟩
/-- Nothing is appended out of a row of none. -/
theorem own_empty (w : World) (e : TypeId) (sz : Nat) : (w.alloc (.cells #[] e)).ownsRow 0 e sz (.slice (some ⟨w.heap.size, 0, none⟩) 0 0) 0 [] := World.ownsRow_made w #[] 0 (Nat.zero_le _) (by unfold maxLen; omega) (by simp)
theorem eqIn_nil {P : Program} (w : World) (n : Nat) (t e : TypeId) (a : Option Addr) (l c : Nat) (h : P.underlying t = some (.slice e)) : (Op.equalIn (n + 1) t (.slice a l c) (.slice none 0 0)).run P w = .ok a.isNone w := by
  cases a <;> simp [Op.equalIn, run_underlying h]
theorem eql_nil {P : Program} (w : World) (t e : TypeId) (a : Option Addr) (l c : Nat) (h : P.underlying t = some (.slice e)) : (binOp .eql t (.slice a l c) (.slice none 0 0)).run P w = .ok (.bool a.isNone) w := by
  have h1 : (Op.equal t (.slice a l c) (.slice none 0 0)).run P w = .ok a.isNone w := eqIn_nil w 9999 t e a l c h
  simp only [binOp]
  simp [h1]
theorem below_grown {w w2 : World} {o : Obj} {row : Option Nat} (hg : (w.alloc o).grownBy w2 row) (hr : ∀ k, row = some k → w.heap.size ≤ k) : Below w.heap.size w w2 :=
  ((Below.refl _ w).alloc (Nat.le_refl _) o).grown hg (by simp) hr
set_option maxRecDepth 20000 in
set_option maxHeartbeats 1000000 in
theorem clone_ops (w : World) (v : Value) (L : List (Int × Int)) (h : w.ownsRow 0 75 2 v L.length (ocs L)) (hl : L.length < 1000000) :
    Calls Try.prog 43 #[v] w fun e w' => ∃ v', e = .returned v' ∧ w'.ownsRow 0 75 2 v' L.length (ocs L) ∧ Below w.heap.size w w' ∧ ∀ k, v'.ownBlock = some k → w.heap.size ≤ k := by
  have HH : Box (w.ownsRow 0 75 2 v L.length (ocs L)) := ⟨h⟩
  have HB : Box ((0 + L.length) * 16 ≤ 140737488355328) := ⟨by omega⟩
  have HN : Box ((ocs L).length = L.length * 2) := ⟨by rw [ocs, flat_length _ 2 (ocs_all L), List.length_map]⟩
  have HO : Box (∀ u ∈ ocs L, u.oneCell' = true) := ⟨fun u hu => by
    obtain ⟨l, hl, hu⟩ := List.mem_flatten.1 hu
    obtain ⟨x, _, rfl⟩ := List.mem_map.1 hl
    exact one_oc x u hu⟩
  clear hl
  rcases h.2 with ⟨rfl, h0⟩ | ⟨g, cap, cur, rfl, _, hg, _⟩
  · have hq : ∀ x, (binOp .eql 58 (.slice none 0 0) (.slice none 0 0)).run Try.prog x = .ok (.bool true) x := fun x => eql_nil x 58 _ none 0 0 Try.underlying58
    clear h
    go_enter Try.func43, Try.ntmps43
    go_wp2
    go_ret
    exact ⟨_, rfl, HH.out, Below.refl _ _, fun k hk => by simp [Value.ownBlock] at hk⟩
  · have HC : Box (∀ j u, (ocs L)[j]? = some u → w.cell? ((⟨g, 0, none⟩ : Addr).add j) = some u) := ⟨HH.out.cells (g := g) rfl⟩
    have hq : ∀ x, (binOp .eql 58 (.slice (some ⟨g, 0, none⟩) L.length cap) (.slice none 0 0)).run Try.prog x = .ok (.bool false) x := fun x => eql_nil x 58 _ _ _ _ Try.underlying58
    clear h hg
    go_enter Try.func43, Try.ntmps43
    go_wp2_with (at_builtin; refine wpList_app2 rfl _ _ 58 rfl 75 2 16 (.agg (oc (0, 0)).toArray) Try.underlying58 info75 rfl (by decide) _ 0 [] rfl (own_empty w _ 2) ⟨g, 0, none⟩ L.length cap (ocs L) rfl HN.out (fun j u hj => cell_al _ (HC.out j u hj)) HO.out HB.out (by decide) ?_; intro v' w2 hown hgr hblk; have HX : Box (_ ∧ _ ∧ _) := ⟨hown, hgr, hblk⟩; clear hown hgr hblk)
    go_ret
    obtain ⟨x1, x2, x3⟩ := HX.out
    rw [Nat.zero_add] at x1
    have hz : ∀ k, Value.ownBlock (.slice (some ⟨w.heap.size, 0, none⟩) 0 0) = some k → w.heap.size ≤ k := fun k hk => by simp [Value.ownBlock] at hk; omega
    exact ⟨_, rfl, x1, below_grown x2 hz, fun k hk => (x3 k hk).elim (hz k) (fun h => by simp at h; omega)⟩
set_option maxRecDepth 20000 in
set_option maxHeartbeats 1000000 in
theorem clone_bytes (w : World) (b off n cap : Nat) (B : List Int) (h : w.rangeAt b off (B.map (Value.int .u8))) (hB : B.length = n) (hl : n < 1000000) :
    Calls Try.prog 34 #[.slice (some ⟨b, off, none⟩) n cap] w fun e w' => ∃ v', e = .returned v' ∧ w'.ownsRow 0 5 1 v' n (B.map (Value.int .u8)) ∧ Below w.heap.size w w' ∧ ∀ k, v'.ownBlock = some k → w.heap.size ≤ k := by
  have HB : Box ((0 + n) * 1 ≤ 140737488355328) := ⟨by omega⟩
  have HN : Box ((B.map (Value.int .u8)).length = n * 1) := ⟨by simp [hB]⟩
  have HO : Box (∀ u ∈ B.map (Value.int .u8), u.oneCell' = true) := ⟨ints_oneCell _ _⟩
  have HC : Box (∀ j u, (B.map (Value.int .u8))[j]? = some u → w.cell? ((⟨b, off, none⟩ : Addr).add j) = some u) := ⟨fun j u hj => by rw [Addr.add_mid]; exact h j u hj⟩
  have hq : ∀ x, (binOp .eql 36 (.slice (some ⟨b, off, none⟩) n cap) (.slice none 0 0)).run Try.prog x = .ok (.bool false) x := fun x => eql_nil x 36 _ _ _ _ Try.underlying36
  clear h hl hB
  go_enter Try.func34, Try.ntmps34
  go_wp2_with (at_builtin; refine wpList_app2 rfl _ _ 36 rfl 5 1 1 (.int .u8 0) Try.underlying36 info5 rfl (by decide) _ 0 [] rfl (own_empty w _ 1) ⟨b, off, none⟩ n cap (B.map (Value.int .u8)) rfl HN.out (fun j u hj => cell_al _ (HC.out j u hj)) HO.out HB.out (by decide) ?_; intro v' w2 hown hgr hblk; have HX : Box (_ ∧ _ ∧ _) := ⟨hown, hgr, hblk⟩; clear hown hgr hblk)
  go_ret
  obtain ⟨x1, x2, x3⟩ := HX.out
  rw [Nat.zero_add] at x1
  have hz : ∀ k, Value.ownBlock (.slice (some ⟨w.heap.size, 0, none⟩) 0 0) = some k → w.heap.size ≤ k := fun k hk => by simp [Value.ownBlock] at hk; omega
  exact ⟨_, rfl, x1, below_grown x2 hz, fun k hk => (x3 k hk).elim (hz k) (fun h => by simp at h; omega)⟩
set_option maxRecDepth 20000 in
set_option maxHeartbeats 1000000 in
theorem ops_any (w : World) (D P : Nat) (uv ov : Value) (d : Dk) (h : At w D P uv ov d) (hl : d.ops.length < 1000000) :
    Calls Try.prog 27 #[.pointer (some ⟨D, 0, none⟩)] w fun e w' => ∃ v', e = .returned v' ∧ w'.ownsRow 0 75 2 v' d.ops.length (ocs d.ops) ∧ Below w.heap.size w w' ∧ ∀ k, v'.ownBlock = some k → w.heap.size ≤ k := by
  obtain ⟨-, -, c2, -, -, -, -⟩ := h.cells
  have HC : Box _ := ⟨clone_ops w ov d.ops h.ho hl⟩
  clear h hl
  go_enter Try.func27, Try.ntmps27
  go_wp2_with (go_at_call 43; refine HC.out.mono ?_; rintro e w' ⟨v', rfl, h3⟩; have HX : Box _ := ⟨h3⟩; clear h3)
  go_ret
  exact ⟨_, rfl, HX.out⟩
end Go.Proofs.Ytlokhbkjkobmaaa
