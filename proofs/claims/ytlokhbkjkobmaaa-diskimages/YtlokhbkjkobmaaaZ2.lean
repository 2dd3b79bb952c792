/-
  What the Go methods ready, has, fits, note, Size, Pending and Stop of package disk answer and do, for every disk.
-/
import Derived.Test.YtlokhbkjkobmaaaZ1
import Derived.Test.YtlokhbkjkobmaaaRows
import Derived.WalkKit
import Derived.WalkSpells
import Derived.WalkLawsBesides
namespace Go.Proofs.Ytlokhbkjkobmaaa
set_option linter.unusedVariables false
open Go.RowKit Plain

theorem At.cells {w : World} {D P : Nat} {uv ov : Value} {d : Dk} (h : At w D P uv ov d) :
    w.cell? ⟨D, 0, none⟩ = some (.slice (some ⟨P, 0, none⟩) d.n d.n) ∧ w.cell? ⟨D, 1, none⟩ = some uv ∧ w.cell? ⟨D, 2, none⟩ = some ov ∧
      w.cell? ⟨D, 3, none⟩ = some (.bool d.down) ∧ w.cell? ⟨D, 4, none⟩ = some (.bool d.st) ∧ w.cell? ⟨D, 5, none⟩ = some (.int .i64 d.left) ∧ ∀ k, w.frozen? ⟨D, k, none⟩ = false := by
  refine ⟨?_, ?_, ?_, ?_, ?_, ?_, fun k => frozen_of_row w D k _ _ h.hd⟩ <;> (rw [cell_of_row _ _ _ _ _ _ h.hd]; rfl)

/-- The head alone has turned. -/
theorem At.put {w w' : World} {D P : Nat} {uv ov : Value} {d : Dk} (h : At w D P uv ov d) (b s : Bool) (l : Int) (hs : ∀ k, k ≠ D → w'.heap[k]? = w.heap[k]?)
    (hd : w'.heap[D]? = some (.cells #[.slice (some ⟨P, 0, none⟩) d.n d.n, uv, ov, .bool b, .bool s, .int .i64 l] 67 (0, 0))) : At w' D P uv ov { d with down := b, st := s, left := l } := by
  obtain ⟨cs, h1, h2⟩ := h.hp
  exact ⟨hd, ⟨cs, by rw [hs P (Ne.symm h.neP)]; exact h1, h2⟩, h.hpl, h.hn, own_same h.hu (fun k hk => hs k (fun e => h.neU.1 (by rw [hk, e]))), h.huw, own_same h.ho (fun k hk => hs k (fun e => h.neO.1 (by rw [hk, e]))), h.neP, h.neU, h.neO, h.neUO⟩
theorem turned_set {fp : Nat → Prop} {w0 w : World} {D k : Nat} (h : Turned fp w0 w) (hf : fp D) (v : Value) : Turned fp w0 (w.setCell ⟨D, k, none⟩ v) :=
  ⟨h.os, h.tape, h.output, by simpa using h.size, fun j hj hn => by
    rw [heap_setCell_other w ⟨D, k, none⟩ j _ (fun e => hn (by have e' : D = j := e.symm; rw [← e']; exact hf))]
    exact h.block j hj hn⟩
theorem ne_blk {x : Value} {k D : Nat} (h : x.ownBlock ≠ some D) (hk : x.ownBlock = some k) : k ≠ D := fun e => h (by rw [hk, e])
/-- An operation more. -/
theorem At.noted {w w1 w2 : World} {D P : Nat} {uv ov v' : Value} {d : Dk} (h : At w D P uv ov d) (x : Int × Int) (hb : Below w.heap.size w w1) (ho : w2.ownsRow 0 75 2 v' (d.ops.length + 1) (ocs d.ops ++ oc x)) (hg : w1.grownBy w2 ov.ownBlock)
    (hv : ∀ k, v'.ownBlock = some k → ov.ownBlock = some k ∨ w1.heap.size ≤ k) (hh : w2.heap[D]? = w.heap[D]?) :
    At (w2.setCell ⟨D, 2, none⟩ v') D P uv v' { d with ops := d.ops ++ [x] } ∧ Turned (foot D P uv ov) w (w2.setCell ⟨D, 2, none⟩ v') ∧ ∀ k, foot D P uv v' k → foot D P uv ov k ∨ w.heap.size ≤ k := by
  obtain ⟨cs, h1, h2⟩ := h.hp
  have hlt := h.lt
  have hle := hb.size
  have hv' : ∀ k, v'.ownBlock = some k → ov.ownBlock = some k ∨ w.heap.size ≤ k := fun k hk => (hv k hk).imp id (fun h => by omega)
  have same : ∀ k, k < w.heap.size → k ≠ D → ov.ownBlock ≠ some k → (w2.setCell ⟨D, 2, none⟩ v').heap[k]? = w.heap[k]? := fun k hk hne hno => by
    rw [heap_setCell_other w2 ⟨D, 2, none⟩ k _ hne, hg.block k (by omega) (Ne.symm hno), hb.block k hk]
  have hD : (w2.setCell ⟨D, 2, none⟩ v').heap[D]? = _ := heap_setCell_same w2 D 2 _ _ v' (hh.trans h.hd)
  have nD : v'.ownBlock ≠ some D := fun e => (hv' D e).elim h.neO.1 (fun hl => by have := hlt D (.inl rfl); omega)
  have nP : v'.ownBlock ≠ some P := fun e => (hv' P e).elim h.neO.2 (fun hl => by have := hlt P (.inr (.inl rfl)); omega)
  refine ⟨⟨hD, ⟨cs, ?_, h2⟩, h.hpl, h.hn, own_same h.hu (fun k hk => ?_), h.huw, ?_, h.neP, h.neU, ⟨nD, nP⟩, ?_⟩, ⟨?_, ?_, ?_, ?_, fun k hk hn => ?_⟩, ?_⟩
  · rw [same P (hlt P (.inr (.inl rfl))) (Ne.symm h.neP) h.neO.2]; exact h1
  · refine same k (hlt k (.inr (.inr (.inl hk)))) (ne_blk h.neU.1 hk) (fun e => ?_)
    rcases h.neUO with hn | hn
    · rw [hn] at hk; cases hk
    · exact hn (by rw [hk, e])
  · rw [ocs_snoc, List.length_append, List.length_singleton]
    exact own_same ho (fun k hk => heap_setCell_other w2 ⟨D, 2, none⟩ k _ (ne_blk nD hk))
  · cases hu : uv.ownBlock with
    | none => exact .inl rfl
    | some u =>
      refine .inr (fun e => ?_)
      rcases hv' u e.symm with h5 | h5
      · rcases h.neUO with hn | hn
        · rw [hn] at hu; cases hu
        · exact hn (by rw [hu, h5])
      · have := hlt u (.inr (.inr (.inl hu))); omega
  · exact hg.os.trans hb.os
  · exact hg.tape.trans hb.tape
  · exact hg.output.trans hb.output
  · have := hg.size; simp; omega
  · exact same k hk (fun e => hn (.inl e)) (fun e => hn (.inr (.inr (.inr e))))
  · rintro k (rfl | rfl | hk | hk)
    · exact .inl (.inl rfl)
    · exact .inl (.inr (.inl rfl))
    · exact .inl (.inr (.inr (.inl hk)))
    · exact (hv' k hk).imp (fun h => .inr (.inr (.inr h))) id

/-- Why nothing may be asked of a disk now. -/
def rdy (d : Dk) : Int := if d.down then 13 else 0
theorem ready_any (w : World) (D P : Nat) (uv ov : Value) (d : Dk) (h : At w D P uv ov d) :
    Calls Try.prog 36 #[.pointer (some ⟨D, 0, none⟩)] w fun e w' => e = .returned (.int .i64 (rdy d)) ∧ w = w' := by
  obtain ⟨-, -, -, c3, -, -, -⟩ := h.cells
  have E : Box (rdy d = if d.down then 13 else 0) := ⟨rfl⟩
  clear h
  go_enter Try.func36, Try.ntmps36
  go_wp2
  · rename_i hb
    go_ret
    exact ⟨by rw [E.out, hb]; rfl, rfl⟩
  · rename_i hb
    go_ret
    exact ⟨by rw [E.out, hb]; rfl, rfl⟩
theorem ready_none (w : World) : Calls Try.prog 36 #[.pointer none] w fun e w' => e = .returned (.int .i64 1) ∧ w = w' := by
  go_enter Try.func36, Try.ntmps36
  go_wp2
  go_ret
  exact ⟨rfl, rfl⟩
/-- Whether there is such a place. -/
def hsp (d : Dk) (i : Int) : Bool := decide (0 ≤ i ∧ i < (d.n : Int))
set_option maxHeartbeats 1000000 in
theorem has_any (w : World) (D P : Nat) (uv ov : Value) (d : Dk) (h : At w D P uv ov d) (i : Int) :
    Calls Try.prog 39 #[.pointer (some ⟨D, 0, none⟩), .int .i64 i] w fun e w' => e = .returned (.bool (hsp d i)) ∧ w = w' := by
  obtain ⟨c0, -, -, -, -, -, -⟩ := h.cells
  have E : Box (hsp d i = decide (0 ≤ i ∧ i < (d.n : Int))) := ⟨rfl⟩
  clear h
  go_enter Try.func39, Try.ntmps39
  by_cases h0 : 0 ≤ i
  · go_wp2
    go_ret
    exact ⟨by rw [E.out]; simp [h0], rfl⟩
  · have h0' : decide (0 ≤ i) = false := by simpa using h0
    go_wp2
    go_ret
    exact ⟨by rw [E.out]; symm; simp; omega, rfl⟩
/-- Why bytes can't be laid at a place. -/
def fit (d : Dk) (i : Int) (len : Nat) : Int := if hsp d i then (if len = 192 then 0 else 1) else 12
set_option maxHeartbeats 1000000 in
theorem fits_any (w : World) (D P : Nat) (uv ov : Value) (d : Dk) (h : At w D P uv ov d) (i : Int) (a : Option Addr) (len cap : Nat) :
    Calls Try.prog 37 #[.pointer (some ⟨D, 0, none⟩), .int .i64 i, .slice a len cap] w fun e w' => e = .returned (.int .i64 (fit d i len)) ∧ w = w' := by
  have E : Box (fit d i len = if hsp d i then (if len = 192 then 0 else 1) else 12) := ⟨rfl⟩
  have H := has_any w D P uv ov d h i
  generalize hsp d i = b at H E
  have HB : Box (Calls Try.prog 39 #[.pointer (some ⟨D, 0, none⟩), .int .i64 i] w fun e w' => e = .returned (.bool b) ∧ w = w') := ⟨H⟩
  clear h H
  go_enter Try.func37, Try.ntmps37
  cases b
  · go_wp2_with (go_at_call 39; refine HB.out.mono ?_; rintro e w' ⟨rfl, rfl⟩)
    go_ret
    exact ⟨by rw [E.out]; rfl, rfl⟩
  · by_cases hl : len = 192
    · subst hl
      go_wp2_with (go_at_call 39; refine HB.out.mono ?_; rintro e w' ⟨rfl, rfl⟩)
      go_ret
      exact ⟨by rw [E.out]; rfl, rfl⟩
    · have hl' : ((len : Int) == 192) = false := by simp; omega
      go_wp2_with (go_at_call 39; refine HB.out.mono ?_; rintro e w' ⟨rfl, rfl⟩)
      go_ret
      exact ⟨by rw [E.out]; simp [hl], rfl⟩
theorem size_any (w : World) (D P : Nat) (uv ov : Value) (d : Dk) (h : At w D P uv ov d) :
    Calls Try.prog 25 #[.pointer (some ⟨D, 0, none⟩)] w fun e w' => e = .returned (.int .i64 (d.n : Int)) ∧ w = w' := by
  obtain ⟨c0, -, -, -, -, -, -⟩ := h.cells
  clear h
  go_enter Try.func25, Try.ntmps25
  go_wp2
  go_ret
  exact ⟨rfl, rfl⟩
theorem own_form2 {w : World} {base n : Nat} {e : TypeId} {sz : Nat} {v : Value} {xs : List Value} (h : w.ownsRow base e sz v n xs) : ∃ a cap, v = .slice a n cap := by
  rcases h.2 with ⟨rfl, rfl⟩ | ⟨g, cap, cur, rfl, _⟩
  · exact ⟨_, _, rfl⟩
  · exact ⟨_, _, rfl⟩
theorem pending_any (w : World) (D P : Nat) (uv ov : Value) (d : Dk) (h : At w D P uv ov d) :
    Calls Try.prog 26 #[.pointer (some ⟨D, 0, none⟩)] w fun e w' => e = .returned (.int .i64 (d.uw.length : Int)) ∧ w = w' := by
  obtain ⟨-, c1, -, -, -, -, -⟩ := h.cells
  obtain ⟨a, cap, rfl⟩ := own_form2 h.hu
  clear h
  go_enter Try.func26, Try.ntmps26
  go_wp2
  go_ret
  exact ⟨rfl, rfl⟩
theorem info75 : (Try.prog.info? 75).map (fun i => (i.zero, i.size, i.bytes)) = some (some (.agg (oc (0, 0)).toArray), 2, 16) := by kernel_rfl
theorem news_new (w : World) (cs : List Value) (e : TypeId) : ∀ j u, cs[j]? = some u → (w.alloc (.cells cs.toArray e)).cell? ((⟨w.heap.size, 0, none⟩ : Addr).add j) = some u := by
  intro j u hj
  rw [Addr.add_lit, Nat.zero_add, cell_of_row _ _ _ _ _ _ (al_at rfl)]
  simpa using hj
theorem At.after {w w2 : World} {D P : Nat} {uv ov : Value} {d : Dk} (h : At w D P uv ov d) (o : Obj) (row : Option Nat) (hr : row ≠ some D) (hg : (w.alloc o).grownBy w2 row) : w2.heap[D]? = w.heap[D]? := by
  have hl := h.lt D (.inl rfl)
  rw [hg.block D (by simp; omega) (Ne.symm hr), Below.heap_alloc w o D hl]
set_option maxHeartbeats 1000000 in
theorem note_at (w : World) (D P : Nat) (uv ov : Value) (d : Dk) (h : At w D P uv ov d) (k i : Int) (hl : d.ops.length < 1000000000) :
    Calls Try.prog 38 #[.pointer (some ⟨D, 0, none⟩), .int .i64 k, .int .i64 i] w fun e w' =>
      e = .returned (.tuple #[]) ∧ ∃ ov', At w' D P uv ov' { d with ops := d.ops ++ [(k, i)] } ∧ Turned (foot D P uv ov) w w' ∧ ∀ k, foot D P uv ov' k → foot D P uv ov k ∨ w.heap.size ≤ k := by
  obtain ⟨-, -, c2, -, -, -, fz⟩ := h.cells
  have f2 := fz 2
  have HA : Box (At w D P uv ov d) := ⟨h⟩
  have HL : Box ((d.ops.length + 1) * 16 ≤ 140737488355328) := ⟨by omega⟩
  clear h fz hl
  go_enter Try.func38, Try.ntmps38
  go_wp2_with (at_builtin; refine wpList_app2 rfl _ _ 58 rfl 75 2 16 (.agg (oc (0, 0)).toArray) Try.underlying58 info75 rfl (by decide) ov d.ops.length (ocs d.ops) rfl (HA.out.ho.alloc _) ⟨w.heap.size, 0, none⟩ 1 1 (oc (k, i)) rfl rfl (news_new w (oc (k, i)) _) (one_oc _) HL.out (by decide) ?_; intro v' w2 hown hgr hblk; obtain ⟨a', cap', rfl⟩ := own_form2 hown; have HD := HA.out.after _ _ HA.out.neO.1 hgr; have c2' : w2.cell? ⟨D, 2, none⟩ = some ov := (World.cell?_of_block HD).trans c2; have f2' : w2.frozen? ⟨D, 2, none⟩ = false := (World.frozen?_of_block HD).trans f2; have HN : Box _ := ⟨HA.out.noted (k, i) ((Below.refl _ w).alloc (Nat.le_refl _) _) hown hgr hblk HD⟩; clear hown hgr hblk HD)
  go_end0
  exact ⟨rfl, _, HN.out⟩
theorem note_any (w : World) (D : Nat) (fp : Nat → Prop) (d : Dk) (h : Is w D fp d) (k i : Int) (hl : d.ops.length < 1000000000) :
    Calls Try.prog 38 #[.pointer (some ⟨D, 0, none⟩), .int .i64 k, .int .i64 i] w fun e w' => e = .returned (.tuple #[]) ∧ Nx D fp w w' { d with ops := d.ops ++ [(k, i)] } := by
  obtain ⟨P, uv, ov, h1, h2⟩ := h
  refine (note_at w D P uv ov d h1 k i hl).mono ?_
  rintro e w' ⟨rfl, ov', i1, t1, s1⟩
  exact ⟨rfl, foot D P uv ov', ⟨P, uv, ov', i1, fun _ hk => hk⟩, ⟨t1.os, t1.tape, t1.output, t1.size, fun k hk hn => t1.block k hk (fun hf => hn (h2 k hf))⟩, fun k hk => (s1 k hk).imp (h2 k) id⟩
theorem At.nx_put {w w' : World} {D P : Nat} {uv ov : Value} {d : Dk} {fp : Nat → Prop} (h : At w D P uv ov d) (h2 : ∀ k, foot D P uv ov k → fp k) (b s : Bool) (l : Int) (t : Turned fp w w') (hs : ∀ k, k ≠ D → w'.heap[k]? = w.heap[k]?)
    (hd : w'.heap[D]? = some (.cells #[.slice (some ⟨P, 0, none⟩) d.n d.n, uv, ov, .bool b, .bool s, .int .i64 l] 67 (0, 0))) : Nx D fp w w' { d with down := b, st := s, left := l } :=
  ⟨fp, ⟨P, uv, ov, h.put b s l hs hd, h2⟩, t, fun _ hk => .inl hk⟩
theorem At.set45 {w : World} {D P : Nat} {uv ov : Value} {d : Dk} {fp : Nat → Prop} (h : At w D P uv ov d) (h2 : ∀ k, foot D P uv ov k → fp k) (s : Bool) (l : Int) : Nx D fp w ((w.setCell ⟨D, 4, none⟩ (.bool s)).setCell ⟨D, 5, none⟩ (.int .i64 l)) { d with st := s, left := l } :=
  h.nx_put h2 d.down s l (turned_set (turned_set (Turned.refl _ _) (h2 D (.inl rfl)) _) (h2 D (.inl rfl)) _) (fun k hk => by rw [heap_setCell_other _ ⟨D, 5, none⟩ k _ hk, heap_setCell_other _ ⟨D, 4, none⟩ k _ hk])
    (heap_setCell_same _ D 5 _ _ _ (heap_setCell_same w D 4 _ _ _ h.hd))
theorem At.set3 {w : World} {D P : Nat} {uv ov : Value} {d : Dk} {fp : Nat → Prop} (h : At w D P uv ov d) (h2 : ∀ k, foot D P uv ov k → fp k) (b : Bool) : Nx D fp w (w.setCell ⟨D, 3, none⟩ (.bool b)) { d with down := b } :=
  h.nx_put h2 b d.st d.left (turned_set (Turned.refl _ _) (h2 D (.inl rfl)) _) (fun k hk => by rw [heap_setCell_other _ ⟨D, 3, none⟩ k _ hk]) (heap_setCell_same w D 3 _ _ _ h.hd)
theorem At.set5 {w : World} {D P : Nat} {uv ov : Value} {d : Dk} {fp : Nat → Prop} (h : At w D P uv ov d) (h2 : ∀ k, foot D P uv ov k → fp k) (l : Int) : Nx D fp w (w.setCell ⟨D, 5, none⟩ (.int .i64 l)) { d with left := l } :=
  h.nx_put h2 d.down d.st l (turned_set (Turned.refl _ _) (h2 D (.inl rfl)) _) (fun k hk => by rw [heap_setCell_other _ ⟨D, 5, none⟩ k _ hk]) (heap_setCell_same w D 5 _ _ _ h.hd)
theorem foot_head {D P : Nat} {uv ov : Value} : foot D P uv ov D := .inl rfl
set_option maxHeartbeats 1000000 in
theorem stop_any (w : World) (D : Nat) (fp : Nat → Prop) (d : Dk) (h : Is w D fp d) (i : Int) :
    Calls Try.prog 23 #[.pointer (some ⟨D, 0, none⟩), .int .i64 i] w fun e w' => e = .returned (.tuple #[]) ∧ Nx D fp w w' { d with st := decide (0 ≤ i), left := max i 0 } := by
  obtain ⟨P, uv, ov, h1, h2⟩ := h
  obtain ⟨-, -, -, -, c4, c5, fz⟩ := h1.cells
  have f4 := fz 4
  have f5 := fz 5
  have HA : Box (At w D P uv ov d) := ⟨h1⟩
  have HF : Box (fp D) := ⟨h2 D foot_head⟩
  have H2 : Box (∀ k, foot D P uv ov k → fp k) := ⟨h2⟩
  clear h1 h2 fz
  go_enter Try.func23, Try.ntmps23
  go_wp2
  · go_end0
    rw [show max i 0 = 0 by omega]
    exact ⟨rfl, HA.out.set45 H2.out _ _⟩
  · go_end0
    rw [show max i 0 = i by omega]
    exact ⟨rfl, HA.out.set45 H2.out _ _⟩
theorem stop_none (w : World) (i : Int) : Calls Try.prog 23 #[.pointer none, .int .i64 i] w fun e w' => e = .returned (.tuple #[]) ∧ w = w' := by
  go_enter Try.func23, Try.ntmps23
  go_wp2
  refine bodyPost_ret (results_none rfl _ _ _) rfl ?_
  exact ⟨rfl, rfl⟩
theorem size_none (w : World) : Calls Try.prog 25 #[.pointer none] w fun e w' => e = .returned (.int .i64 0) ∧ w = w' := by
  go_enter Try.func25, Try.ntmps25
  go_wp2
  go_ret
  exact ⟨rfl, rfl⟩
theorem pending_none (w : World) : Calls Try.prog 26 #[.pointer none] w fun e w' => e = .returned (.int .i64 0) ∧ w = w' := by
  go_enter Try.func26, Try.ntmps26
  go_wp2
  go_ret
  exact ⟨rfl, rfl⟩
end Go.Proofs.Ytlokhbkjkobmaaa
