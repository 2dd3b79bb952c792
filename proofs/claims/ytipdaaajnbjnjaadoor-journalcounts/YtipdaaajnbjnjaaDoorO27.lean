/-
  What whole, head and own of package record, and slices.Clone of bytes, answer.
-/
import Derived.Test.YtipdaaajnbjnjaaDoorO26
namespace Go.Proofs.YtipdaaajnbjnjaaDoor
set_option maxRecDepth 100000
set_option linter.unusedVariables false
open Go.RowKit Plain
theorem own_emptyB (w : World) : (w.alloc (.cells #[] 5)).ownsRow w.heap.size 5 1 (.slice (some ⟨w.heap.size, 0, none⟩) 0 0) 0 [] :=
  ⟨rfl, .inr ⟨w.heap.size, 0, #[], rfl, Nat.le_refl _, al_at rfl, Nat.le_refl _, by unfold maxLen; omega, by simp, by simp⟩⟩
set_option maxRecDepth 20000 in
set_option maxHeartbeats 1000000 in
theorem clone_any (a : Option Addr) (n cap : Nat) (L : List Int) (w : World) (h : Bytes w a n L) (hl : n < 1000000) :
    Calls Tryd.prog 53 #[.slice a n cap] w fun e w' => ∃ a' c', e = .returned (.slice a' n c') ∧ w'.ownsRow w.heap.size 5 1 (.slice a' n c') n (L.map (Value.int .u8)) ∧ Below w.heap.size w w' := by
  obtain ⟨i0, hi, hz0, hz1, hz2⟩ := info_parts info5
  cases a with
  | none =>
    have hn : n = 0 := by
      by_cases hm : n = 0
      · exact hm
      · obtain ⟨_, _, he, _⟩ := h.2.2 (by omega)
        cases he
    subst hn
    obtain rfl : L = [] := List.eq_nil_of_length_eq_zero h.1
    have hq : ∀ x, (binOp .eql 64 (.slice none 0 cap) (.slice none 0 0)).run Tryd.prog x = .ok (.bool true) x := fun x => eql_nil x 64 _ none 0 cap Tryd.underlying64
    clear h hl
    go_enter Tryd.func53, Tryd.ntmps53
    go_wp2
    go_ret
    exact ⟨_, _, rfl, World.ownsRow_nil _ _ _ _, Below.refl _ _⟩
  | some ad =>
    have HB : Box ((0 + n) * 1 ≤ 140737488355328) := ⟨by omega⟩
    have HN : Box ((L.map (Value.int .u8)).length = n * 1) := ⟨by simp [h.1]⟩
    have HO : Box (∀ u ∈ L.map (Value.int .u8), u.oneCell' = true) := ⟨ints_oneCell _ _⟩
    have HC : Box (∀ j u, (L.map (Value.int .u8))[j]? = some u → w.cell? (ad.add j) = some u) := ⟨bytes_news h⟩
    have hq : ∀ x, (binOp .eql 64 (.slice (some ad) n cap) (.slice none 0 0)).run Tryd.prog x = .ok (.bool false) x := fun x => eql_nil x 64 _ _ _ _ Tryd.underlying64
    clear h hl
    go_enter Tryd.func53, Tryd.ntmps53
    go_wp2_with (at_builtin; refine wpList_append_own _ rfl _ _ 64 rfl w.heap.size 5 i0 (.int .u8 0) 1 1 Tryd.underlying64 hi hz0 hz1 hz2 rfl (by decide) _ 0 [] rfl (own_emptyB w) ad n cap (L.map (Value.int .u8)) rfl HN.out (fun j u hj => cell_al _ (HC.out j u hj)) HO.out (by unfold maxLen; have := HB.out; omega) HB.out (by simp) ?_; intro v' w2 hown hgr _; have HX : Box (_ ∧ _) := ⟨hown, hgr⟩; clear hown hgr)
    go_ret
    obtain ⟨x1, x2⟩ := HX.out
    rw [Nat.zero_add, List.nil_append] at x1
    obtain ⟨a', c', rfl⟩ := own_form x1
    have hz : ∀ k, Value.ownBlock (.slice (some ⟨w.heap.size, 0, none⟩) 0 0) = some k → w.heap.size ≤ k := fun k hk => by simp [Value.ownBlock] at hk; omega
    exact ⟨a', c', rfl, x1, below_grown x2 hz⟩
set_option maxHeartbeats 400000 in
theorem whole_any (m : Im) (b : Bool) (hb : ((m.bl : Int) == 160) = b) (w : World) :
    Calls Tryd.prog 66 #[.agg (imc m).toArray] w fun e w' => e = .returned (.bool b) ∧ Below w.heap.size w w' := by
  have hb1 : Below w.heap.size w (w.alloc (.cells (imc m).toArray 77)) := (Below.refl _ _).alloc (Nat.le_refl _) _
  have c1 : (w.alloc (.cells (imc m).toArray 77)).cell? ⟨w.heap.size, 1, none⟩ = some (.slice m.ba m.bl m.bc) := by rw [cell_of_row _ _ _ _ _ _ (al_at rfl)]; rfl
  have HB : Box _ := ⟨hb1⟩
  obtain ⟨S, HS⟩ : ∃ S, Box (w.heap.size = S) := ⟨_, ⟨rfl⟩⟩
  clear hb1
  go_enter Tryd.func66, Tryd.ntmps66
  go_upto_region 1 with fail
  generalize w.alloc (.cells (imc m).toArray 77) = w1 at HB c1 ⊢
  rw [HS.out] at c1 ⊢
  go_wp2
  go_ret
  exact ⟨rfl, HB.out⟩
set_option maxHeartbeats 400000 in
theorem head_any (b : Bool) (w : World) : Calls Tryd.prog 81 #[.bool b] w fun e w' => e = .returned (.int .u64 (if b then 257 else 1)) ∧ w = w' := by
  cases b
  · go_enter Tryd.func81, Tryd.ntmps81
    go_wp2
    go_ret
    exact ⟨rfl, rfl⟩
  · go_enter Tryd.func81, Tryd.ntmps81
    go_wp2
    go_ret
    exact ⟨rfl, rfl⟩
theorem but_setCells (b : Nat) : ∀ (vs : List Value) (o : Nat) (w0 w : World), But b w0 w → But b w0 (w.setCells b o vs)
  | [], _, _, _, h => h
  | v :: r, o, w0, w, h => but_setCells b r (o + 1) w0 _ (h.setCell o v)
theorem but_cell {G : Nat} {w w' : World} (h : But G w w') {a : Addr} {v : Value} (hc : w.cell? a = some v) (hn : a.block ≠ G) : w'.cell? a = some v :=
  (World.cell?_of_block (h.block a.block (World.block_lt_of_cell? w a hc) hn)).trans hc
theorem but_range {G : Nat} {w w' : World} (h : But G w w') {b o : Nat} {cs : List Value} (hc : w.rangeAt b o cs) (hn : b ≠ G) : w'.rangeAt b o cs := fun j v hv => but_cell h (hc j v hv) hn
theorem below_but {B G : Nat} {w w1 w2 : World} (h : Below B w w1) (k : But G w1 w2) (hG : B ≤ G) (hB : B ≤ w1.heap.size) : Below B w w2 := h.trans (k.below hG hB)
/-- An image with its bytes in new memory. -/
def Owned (w w' : World) (m m' : Im) : Prop := pl m' = pl m ∧ m'.bl = m.bl ∧ OIm w' w.heap.size m' ∧ Below w.heap.size w w'
theorem built_Im (b : Int) (a : Option Addr) (l c : Nat) : Tryd.prog.built 77 [(0, .int .u64 b), (1, .slice a l c)] = some #[.int .u64 b, .slice a l c] := by kernel_rfl
set_option maxHeartbeats 1000000 in
theorem own_any (m : Im) (w : World) (h : Bytes w m.ba m.bl m.bs) (hn : N64 m.blk) (hl : m.bl < 1000000) :
    Calls Tryd.prog 67 #[.agg (imc m).toArray] w fun e w' => ∃ m', e = .returned (.agg (imc m').toArray) ∧ Owned w w' m m' := by
  obtain ⟨S, hS0⟩ : ∃ S, w.heap.size = S := ⟨_, rfl⟩
  obtain ⟨w1, hw1⟩ : ∃ w1, w.alloc (.cells (imc m).toArray 77) = w1 := ⟨_, rfl⟩
  obtain ⟨w2, hw2⟩ : ∃ w2, w1.alloc (.cells #[.int .u64 0, .slice none 0 0] 77) = w2 := ⟨_, rfl⟩
  have hs1 : w1.heap.size = S + 1 := by rw [← hw1]; simp [hS0]
  have hs2 : w2.heap.size = S + 2 := by rw [← hw2]; simp [hs1]
  have hb1 : Below w.heap.size w w1 := by rw [← hw1]; exact (Below.refl _ _).alloc (Nat.le_refl _) _
  have hb2 : Below w.heap.size w w2 := by rw [← hw2]; exact hb1.alloc hb1.size _
  have r1 : w2.heap[S]? = some (.cells (imc m).toArray 77 (0, 0)) := by rw [← hw2]; exact al_old (by rw [← hw1]; exact al_at hS0)
  have r2 : w2.heap[S + 1]? = some (.cells #[.int .u64 0, .slice none 0 0] 77 (0, 0)) := by rw [← hw2]; exact al_at hs1
  have HK : Box (∀ x, Below w2.heap.size w2 x → x.cell? ⟨S, 0, none⟩ = some (.int .u64 m.blk) ∧ x.cell? ⟨S, 1, none⟩ = some (.slice m.ba m.bl m.bc)) := ⟨fun x hx => by
    have r := (hx.block S (by omega)).trans r1
    exact ⟨by rw [cell_of_row _ _ _ _ _ _ r]; rfl, by rw [cell_of_row _ _ _ _ _ _ r]; rfl⟩⟩
  have HR : Box (∀ x, Below w2.heap.size w2 x → x.heap[S + 1]? = some (.cells #[.int .u64 0, .slice none 0 0] 77 (0, 0))) := ⟨fun x hx => (hx.block (S + 1) (by omega)).trans r2⟩
  have HC : Box (∀ x, Below w2.heap.size w2 x → Calls Tryd.prog 53 #[.slice m.ba m.bl m.bc] x fun e w' => ∃ a' c', e = .returned (.slice a' m.bl c') ∧ w'.ownsRow x.heap.size 5 1 (.slice a' m.bl c') m.bl (m.bs.map (Value.int .u8)) ∧ Below x.heap.size x w') := ⟨fun x hx => clone_any m.ba m.bl m.bc m.bs x (h.below (below_to hb2 hx)) hl⟩
  have HB2 : Box (Below w.heap.size w w2 ∧ w.heap.size = S ∧ w2.heap.size = S + 2 ∧ Byt m.bs ∧ N64 m.blk) := ⟨hb2, hS0, hs2, h.2.1, hn⟩
  clear hb1 hb2 r1 r2 h hl hn hs2
  go_enter Tryd.func67, Tryd.ntmps67
  go_upto_region 1 with (refine atAlloc _ ?_; refine wpList_run rfl _ _ (exec_alloc 77 rfl _ zeroIm) ?_)
  (try simp only [hs1, hw2, Act.put, List.setIfInBounds_toArray, List.set_cons_zero, List.set_cons_succ])
  (try simp only [hw2])
  clear hw1 hw2 hS0 hs1
  refine begin_keep (S := fun x => x.cell? ⟨S, 0, none⟩ = some (.int .u64 m.blk) ∧ x.cell? ⟨S, 1, none⟩ = some (.slice m.ba m.bl m.bc)) (by kernel_rfl) (fun wd hwd => ?_)
  have hbd : Below w2.heap.size w2 wd := by rw [hwd]; exact (Below.refl _ _).drew
  clear hwd
  have hS := HK.out wd hbd
  refine take_s (i := 0) (v := ?_) rfl (by kernel_rfl) (by kernel_rfl) (by kernel_rfl) (fun _ _ _ h => h) (by rfl) ?_ hS ?_
  rotate_left
  · intro w' hLat; clear hLat; go_simp <;> with_reducible rfl
  try simp only [Act.put, List.setIfInBounds_toArray, List.set_cons_zero, List.set_cons_succ, List.getElem_toArray, List.getElem_cons_zero]
  refine take_s (i := 1) (v := .int .u64 m.blk) rfl (by kernel_rfl) (by kernel_rfl) (by kernel_rfl) (fun _ _ _ h => h) (by rfl) (fun w' hLat => exec_load1 24 _ _ rfl Tryd.underlying24 rfl _ rfl _ hLat.1) hS ?_
  try simp only [Act.put, List.setIfInBounds_toArray, List.set_cons_zero, List.set_cons_succ, List.getElem_toArray, List.getElem_cons_zero, List.getElem_cons_succ]
  refine take_s (i := 2) (v := ?_) rfl (by kernel_rfl) (by kernel_rfl) (by kernel_rfl) (fun _ _ _ h => h) (by rfl) ?_ hS ?_
  rotate_left
  · intro w' hLat; clear hLat; go_simp <;> with_reducible rfl
  try simp only [Act.put, List.setIfInBounds_toArray, List.set_cons_zero, List.set_cons_succ, List.getElem_toArray, List.getElem_cons_zero, List.getElem_cons_succ]
  refine take_s (i := 3) (v := .slice m.ba m.bl m.bc) rfl (by kernel_rfl) (by kernel_rfl) (by kernel_rfl) (fun _ _ _ h => h) (by rfl) (fun w' hLat => exec_load1 64 _ _ rfl Tryd.underlying64 rfl _ rfl _ hLat.2) hS ?_
  try simp only [Act.put, List.setIfInBounds_toArray, List.set_cons_zero, List.set_cons_succ, List.getElem_toArray, List.getElem_cons_zero, List.getElem_cons_succ]
  refine one_keep (i := 4) (by kernel_rfl) ?_
  refine keep_step rfl (by rfl) ?_
  go_simp
  refine Calls.mono (HC.out wd hbd) ?_
  rintro e x1 ⟨a', c', rfl, ho, hb1⟩
  have hbx := below_to hbd hb1
  have hS := HK.out x1 hbx
  refine ⟨hS, ?_⟩
  try simp only [Act.put, List.setIfInBounds_toArray, List.set_cons_zero, List.set_cons_succ, List.getElem_toArray, List.getElem_cons_zero, List.getElem_cons_succ]
  refine take_s (i := 5) (v := .agg #[.int .u64 m.blk, .slice a' m.bl c']) rfl (by kernel_rfl) (by kernel_rfl) (by kernel_rfl) (fun _ _ _ h => h) (by rfl) (fun w' hLat => exec_built 77 [(0, .tmp 4), (1, .tmp 7)] rfl [(0, .int .u64 m.blk), (1, .slice a' m.bl c')] rfl _ (built_Im _ _ _ _)) hS ?_
  try simp only [Act.put, List.setIfInBounds_toArray, List.set_cons_zero, List.set_cons_succ, List.getElem_toArray, List.getElem_cons_zero, List.getElem_cons_succ]
  refine one_keep (i := 6) (by kernel_rfl) ?_
  refine keep_step rfl (by rfl) ?_
  refine wp_store_mid 77 (.tmp 2) (.tmp 8) rfl (S + 1) 0 #[.int .u64 m.blk, .slice a' m.bl c'] rfl rfl (there_row (HR.out x1 hbx) (Nat.le_refl _)) infoIm (by simp [Value.oneCell']) ?_
  obtain ⟨y, hy⟩ : ∃ y, x1.setCells (S + 1) 0 #[.int .u64 m.blk, .slice a' m.bl c'].toList = y := ⟨_, rfl⟩
  rw [hy]
  have hbut : But (S + 1) x1 y := by rw [← hy]; exact but_setCells _ _ _ _ _ (But.refl _ _)
  have hry : y.heap[S + 1]? = some (.cells #[.int .u64 m.blk, .slice a' m.bl c'] 77 (0, 0)) := by rw [← hy, setCells_row (S + 1) _ _ 0 _ _ (HR.out x1 hbx) (Nat.le_refl _)]; rfl
  have hS2 := hS
  have hS := And.intro (but_cell hbut hS2.1 (by show S ≠ S + 1; omega)) (but_cell hbut hS2.2 (by show S ≠ S + 1; omega))
  refine ⟨hS, ?_⟩
  try simp only [Act.put, List.getElem_toArray, List.getElem_cons_zero, List.getElem_cons_succ]
  refine wpAnyH_done (by kernel_rfl) ?_ _
  have HY : Box (y.rangeAt (S + 1) 0 [.int .u64 m.blk, .slice a' m.bl c']) := ⟨range_arr hry _ (fun j v hv => by simpa using hv)⟩
  have HO : Box (Owned w y m ⟨m.blk, a', m.bl, c', m.bs⟩) := ⟨rfl, rfl, ⟨own_low2 (own_same ho (fun k hk => hbut.block k (ho.lt k hk).2 (fun e => by have := (ho.lt k hk).1; have := hbd.size; have := HB2.out.2.2.1; omega))) (by have := hbd.size; have := HB2.out.2.2.1; have := HB2.out.2.1; omega), HB2.out.2.2.2.1, HB2.out.2.2.2.2⟩, below_but (below_to HB2.out.1 hbx) hbut (by have := HB2.out.2.1; omega) (by have := HB2.out.1.size; have := hbx.size; omega)⟩
  clear hry hbut ho hb1 hbd hbx hS hS2 hy
  go_wp2
  refine bodyPost_ret (results_cell (t := 2) rfl _ _ (S + 1) [.int .u64 m.blk, .slice a' m.bl c'] _ rfl HY.out Tryd.underlying77 rfl infoIm) rfl ?_
  exact ⟨⟨m.blk, a', m.bl, c', m.bs⟩, rfl, HO.out⟩
end Go.Proofs.YtipdaaajnbjnjaaDoor
