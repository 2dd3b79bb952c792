/-
  What the Go function New of package disk answers, for every number of places. And what follows it.
-/
import Derived.Test.YtcggbnggmglphaaDoorQ09
import Derived.RangeFuncNested
import Derived.RangeFuncBound
import Derived.RangeFuncCalls
import Derived.RangeFuncLeaves
import Derived.Shelf.Abstract
import Derived.Shelf.RegionOpen
import Derived.OwnWalkIn
import Derived.TacticsInMore
import Derived.LoopNIn
import Derived.LoopIn
import Derived.OrdersHeld
namespace Go.Proofs.YtcggbnggmglphaaDoor.Disk.Plain
set_option maxRecDepth 100000
end Go.Proofs.YtcggbnggmglphaaDoor.Disk.Plain
namespace Go.Proofs.YtcggbnggmglphaaDoor.Disk
set_option maxRecDepth 100000
set_option linter.unusedVariables false
open Go.RowKit Go.Proofs.YtcggbnggmglphaaDoor.Plain Go.Proofs.YtcggbnggmglphaaDoor.Disk.Plain
theorem exec_make {P : Program} {o : Oper} {ρ : Operand → Value} {w : World} (t e : TypeId) (l c : Operand) (ho : o.op = .makeSlice t l c) (z : Value) (size bytes : Nat) (ht : P.underlying t = some (.slice e)) (hi : (P.info? e).map (fun i => (i.zero, i.size, i.bytes)) = some (some z, size, bytes))
    (n : Nat) (hl : ρ l = .int .i64 (n : Int)) (hc : ρ c = .int .i64 (n : Int)) (hb : bytes * n ≤ 281474976710656) (h63 : n ≤ 9223372036854775807) :
    (execOp ρ o).run P w = .ok (.value (.slice (some ⟨w.heap.size, 0, none⟩) n n)) (w.alloc (.cells (madeCells z.cells (n * size)) e)) := by
  obtain ⟨i, hi1, hz, rfl, rfl⟩ := info_parts hi
  have hb' : (i.bytes : Int) * (n : Int) ≤ 281474976710656 := by
    have h : ((i.bytes * n : Nat) : Int) ≤ 281474976710656 := by omega
    rwa [Int.natCast_mul] at h
  have hr := run_make (P := P) w t e i z ht hi1 hz .i64 .i64 n n (by omega) (Int.le_refl _) hb' (by omega)
  unfold execOp
  simp only [ho, hl, hc, hr, Sem.run_bind, Sem.run_pure, Result.andThen_ok, Int.toNat_natCast]
theorem made_at (z : Array Value) (n i : Nat) (v : Value) (hi : i < n) (hz : 0 < z.size) (h : ∀ j, j < z.size → z[j]? = some v) : (madeCells z n)[i]? = some v := by
  have h1 : i % z.size < z.size := Nat.mod_lt _ hz
  have h2 := h _ h1
  rw [Array.getElem?_eq_getElem h1] at h2
  simp only [Option.some.injEq] at h2
  simp [madeCells, hi, h1, h2]
theorem size_made (z : Array Value) (n : Nat) : (madeCells z n).size = n := by simp [madeCells]
theorem zero_at (n j : Nat) (h : j < n) : (u8s (List.replicate n 0))[j]? = some (.int .u8 0) := by simp [u8s, h]
theorem made_pls (n : Nat) : Pls (madeCells (u8s (z192)) (n * 192)) n (fun _ => z192) := by
  refine ⟨by rw [size_made, Nat.mul_comm], fun i hi j hj => ?_⟩
  have e : z192.getD j 0 = 0 := getD_z192 j
  rw [e]
  refine made_at _ _ _ _ ?_ (by rw [size_u8s, length_z192]; omega) (fun j hj => zero_at 192 j (by rw [size_u8s, length_z192] at hj; exact hj))
  have : 192 * i + 192 ≤ 192 * n := by rw [← Nat.mul_succ]; exact Nat.mul_le_mul_left _ hi
  omega
theorem one_zero : ∀ j, j < (#[.int .u8 0] : Array Value).size → (#[.int .u8 0] : Array Value)[j]? = some (.int .u8 0) := by
  intro j hj
  have : j = 0 := by simp at hj; omega
  subst this
  rfl
theorem made_bytes (n : Nat) : madeCells #[.int .u8 0] n = u8s (List.replicate n 0) := by
  apply Array.ext
  · rw [size_made, size_u8s, List.length_replicate]
  · intro i h1 h2
    have hi : i < n := by rw [size_made] at h1; exact h1
    have a1 := made_at #[.int .u8 0] n i (.int .u8 0) hi (by decide) (one_zero)
    have a2 := zero_at n i hi
    rw [Array.getElem?_eq_getElem h1] at a1
    rw [Array.getElem?_eq_getElem h2] at a2
    simp only [Option.some.injEq] at a1 a2
    rw [a1, a2]
theorem info79b : (Tryd.prog.info? 116).map (fun i => (i.zero, i.size, i.bytes)) = some (some (.agg (u8s (z192))), 192, 192) := by kernel_rfl
/-- A new disk. -/
def dk0 (n : Nat) : Dk := ⟨n, fun _ => z192, [], [], false, false, 0⟩
theorem at_new (w : World) (n : Nat) (hn : 1 ≤ n ∧ n ≤ 4096) :
    At ((w.alloc (.cells (madeCells (u8s (z192)) (n * 192)) 116)).alloc (.cells #[.slice (some ⟨w.heap.size, 0, none⟩) n n, .slice none 0 0, .slice none 0 0, .bool false, .bool false, .int .i64 0] 73)) (w.heap.size + 1) w.heap.size (.slice none 0 0) (.slice none 0 0) (dk0 n) :=
  ⟨al_at (by simp), ⟨_, al_old (al_at rfl), made_pls n⟩, fun _ => ⟨length_z192, byt_z192⟩, hn, World.ownsRow_nil _ _ _ _, fun x hx => by simp [dk0] at hx, World.ownsRow_nil _ _ _ _, by omega, by simp [Value.ownBlock], by simp [Value.ownBlock], .inl rfl⟩
theorem made_foot (s : Nat) (k : Nat) (h : foot (s + 1) s (.slice none 0 0) (.slice none 0 0) k) : s ≤ k := by
  rcases h with rfl | rfl | h | h
  · omega
  · omega
  · simp [Value.ownBlock] at h
  · simp [Value.ownBlock] at h
set_option maxHeartbeats 1000000 in
theorem new_any (w : World) (n : Nat) (hn : 1 ≤ n ∧ n ≤ 4096) : Calls Tryd.prog 5 #[.int .i64 (n : Int)] w fun e w' => e = .returned (.tuple #[.pointer (some ⟨w.heap.size + 1, 0, none⟩), .int .i64 0]) ∧ Is w' (w.heap.size + 1) (fun k => w.heap.size ≤ k) (dk0 n) ∧ Below w.heap.size w w' := by
  have H : Box _ := ⟨at_new w n hn⟩
  have HX : Box (192 * n ≤ 281474976710656 ∧ n ≤ 9223372036854775807) := ⟨by omega, by omega⟩
  have h1 : decide ((n : Int) < 1) = false := by simp; omega
  have h2 : decide (4096 < (n : Int)) = false := by simp; omega
  clear hn
  go_enter Tryd.func5, Tryd.ntmps5
  go_wp2_with (refine wpList_run rfl _ _ (exec_make 69 116 _ _ rfl (.agg (u8s (z192))) 192 192 Tryd.underlying69 info79b n rfl rfl HX.out.1 HX.out.2) ?_)
  go_ret2
  exact ⟨rfl, ⟨_, _, _, H.out, made_foot _⟩, ((Below.refl _ w).alloc (Nat.le_refl _) _).alloc (by simp) _⟩
end Go.Proofs.YtcggbnggmglphaaDoor.Disk
namespace Go.Proofs.YtcggbnggmglphaaDoor.Disk.Plain
set_option maxRecDepth 100000
end Go.Proofs.YtcggbnggmglphaaDoor.Disk.Plain
namespace Go.Proofs.YtcggbnggmglphaaDoor.Disk
set_option maxRecDepth 100000
set_option linter.unusedVariables false
open Go.RowKit Go.Shelf Go.Proofs.YtcggbnggmglphaaDoor.Plain Go.Proofs.YtcggbnggmglphaaDoor.Disk.Plain
attribute [local go_sem] Oper.semAt_some
/-- A write under way, with its number. -/
structure Wr where
  k : Nat
  p : Nat
  b : List Int
  hb : b.length = 192
def Wr.enc (x : Wr) : Array Value := #[.int .i64 (x.k : Int), .agg (wc (x.p, x.b)).toArray]
def Lens (L : List (Nat × List Int)) : Prop := ∀ x ∈ L, x.2.length = 192
def itm (L : List (Nat × List Int)) (hL : Lens L) (k : Nat) : Wr := if h : k < L.length then ⟨k, L[k].1, L[k].2, hL _ (List.getElem_mem h)⟩ else ⟨0, 0, z192, length_z192⟩
/-- What has come behind so many rounds. -/
def came (L : List (Nat × List Int)) (hL : Lens L) (j : Nat) : List Wr := (List.range j).map (fun t => itm L hL (L.length - 1 - t))
/-- Writes in memory, where a slice says. -/
def Ways (n₀ : Nat) (W : World) (a : Option Addr) (L : List (Nat × List Int)) : Prop := 0 < L.length → ∃ b, a = some ⟨b, 0, none⟩ ∧ b < n₀ ∧ ∀ k (h : k < L.length), W.rangeAt b (k * 193) (wc L[k])
theorem Ways.below {n₀ : Nat} {A B : World} {a : Option Addr} {L : List (Nat × List Int)} (h : Ways n₀ A a L) (hb : Below n₀ A B) : Ways n₀ B a L := fun h0 => by
  obtain ⟨b, e, h1, h2⟩ := h h0
  exact ⟨b, e, h1, fun k hk j v hv => (hb.cell (p := ⟨b, k * 193 + j, none⟩) h1).trans (h2 k hk j v hv)⟩
end Go.Proofs.YtcggbnggmglphaaDoor.Disk
namespace Go.Proofs.YtcggbnggmglphaaDoor.Disk.Plain
set_option maxRecDepth 100000
end Go.Proofs.YtcggbnggmglphaaDoor.Disk.Plain
namespace Go.Proofs.YtcggbnggmglphaaDoor.Disk
set_option maxRecDepth 100000
set_option linter.unusedVariables false
open Go.RowKit Go.Proofs.YtcggbnggmglphaaDoor.Plain Go.Proofs.YtcggbnggmglphaaDoor.Disk.Plain
theorem splice_cons {α : Type} (L r : List α) (v : α) (o : Nat) (h : o < L.length) : splice (L.set o v) (o + 1) r = splice L o (v :: r) := by
  unfold splice
  have e1 : (L.set o v).take (o + 1) = L.take o ++ [v] := by
    rw [List.take_add_one, List.take_set_of_le (Nat.le_refl _)]
    simp [h]
  have e2 : (L.set o v).drop (o + 1 + r.length) = L.drop (o + (v :: r).length) := by
    rw [List.drop_set_of_lt (by omega)]
    simp only [List.length_cons]
    congr 1
    omega
  rw [e1, e2]
  simp
theorem heap_setCells (b : Nat) (t : TypeId) : ∀ (vs : List Value) (o : Nat) (w : World) (cs : Array Value), w.heap[b]? = some (.cells cs t (0, 0)) → o + vs.length ≤ cs.size → (w.setCells b o vs).heap[b]? = some (.cells (splice cs.toList o vs).toArray t (0, 0))
  | [], o, w, cs, hg, hf => by
    rw [splice_nil]
    simpa [World.setCells] using hg
  | v :: r, o, w, cs, hg, hf => by
    rw [World.setCells]
    have h1 := heap_setCell_same w b o cs t v hg
    have hl : o < cs.size := by simp only [List.length_cons] at hf; omega
    rw [heap_setCells b t r (o + 1) _ _ h1 (by simp only [List.length_cons] at hf; simp; omega)]
    rw [Array.toList_setIfInBounds, splice_cons _ _ _ _ (by simpa using hl)]
theorem heap_setCells_other (b k : Nat) (hk : k ≠ b) : ∀ (vs : List Value) (o : Nat) (w : World), (w.setCells b o vs).heap[k]? = w.heap[k]?
  | [], o, w => rfl
  | v :: r, o, w => by
    rw [World.setCells, heap_setCells_other b k hk r (o + 1), heap_setCell_other w ⟨b, o, none⟩ k _ hk]
theorem but_setCells (b : Nat) : ∀ (vs : List Value) (o : Nat) (w0 w : World), But b w0 w → But b w0 (w.setCells b o vs)
  | [], o, w0, w, h => h
  | v :: r, o, w0, w, h => by
    rw [World.setCells]
    exact but_setCells b r (o + 1) w0 _ (h.setCell o v)
theorem there_row {w : World} {g o n : Nat} {cs : Array Value} {t : TypeId} (hg : w.heap[g]? = some (.cells cs t (0, 0))) (h : o + n ≤ cs.size) : w.there g o n := by
  intro j hj
  refine ⟨?_, frozen_of_row w g _ cs t hg⟩
  rw [cell_of_row _ _ _ _ _ _ hg]
  have : o + j < cs.size := by omega
  simp [this]
theorem splice_all {α : Type} (L vs : List α) (h : L.length = vs.length) : splice L 0 vs = vs := by simp [splice, h]
theorem but_cell {G : Nat} {w w' : World} (h : But G w w') {a : Addr} {v : Value} (hc : w.cell? a = some v) (hn : a.block ≠ G) : w'.cell? a = some v :=
  (World.cell?_of_block (h.block a.block (World.block_lt_of_cell? w a hc) hn)).trans hc
theorem but_range {G : Nat} {w w' : World} (h : But G w w') {b o : Nat} {cs : List Value} (hc : w.rangeAt b o cs) (hn : b ≠ G) : w'.rangeAt b o cs := fun j v hv => but_cell h (hc j v hv) hn
theorem exec_load1 {P : Program} {o : Oper} {ρ : Operand → Value} {w' : World} (t : TypeId) (d : TypeDesc) (x : Operand) (ho : o.op = .load t x) (hu : P.underlying t = some d) (hd : d.isRow = false) (ad : Addr) (hx : ρ x = .pointer (some ad)) (v : Value) (hc : w'.cell? ad = some v) :
    (execOp ρ o).run P w' = .ok (.value v) w' := by
  have hagg : (isAgg t).run P w' = .ok false w' := by
    unfold isAgg
    rw [Sem.run_bind, run_underlying hu w']
    cases d <;> simp_all
  unfold execOp
  simp [ho, hx, Instr.loadAt, Instr.sureAddr, loadVar, Sem.run_bind, hagg, load, Sem.run, hc]
theorem exec_load_mid {P : Program} {o : Oper} {ρ : Operand → Value} {w' : World} (t : TypeId) (d : TypeDesc) (x : Operand) (ho : o.op = .load t x) (hu : P.underlying t = some d) (hd : d.isRow = true) (b off : Nat) (hx : ρ x = .pointer (some ⟨b, off, none⟩)) (cs : List Value) (hi : (P.info? t).map (·.size) = some cs.length) (hc : w'.rangeAt b off cs) :
    (execOp ρ o).run P w' = .ok (.value (.agg cs.toArray)) w' := by
  unfold execOp
  simp only [ho, hx, Instr.loadAt, Instr.sureAddr, Sem.run_bind, Sem.run_pure, Result.andThen_ok, run_loadVar_mid w' b off t cs d hc hu hd hi]
section
variable {P : Program} {md : Region.Mode} {ops : Array Oper} {Q : Exit → Act → World → Prop}
end
end Go.Proofs.YtcggbnggmglphaaDoor.Disk
namespace Go.Proofs.YtcggbnggmglphaaDoor.Disk.Plain
set_option maxRecDepth 100000
end Go.Proofs.YtcggbnggmglphaaDoor.Disk.Plain
namespace Go.Proofs.YtcggbnggmglphaaDoor.Disk
set_option maxRecDepth 100000
set_option linter.unusedVariables false
open Go.RowKit Go.Shelf Go.Proofs.YtcggbnggmglphaaDoor.Plain Go.Proofs.YtcggbnggmglphaaDoor.Disk.Plain
attribute [local go_sem] Oper.semAt_some
/-- The bytes of the last write to a place. -/
def lastOf (L : List (Nat × List Int)) (i : Nat) : Option (List Int) := (L.reverse.find? (fun x => x.1 == i)).map (·.2)
theorem cell_al {w : World} {a : Addr} {v : Value} (o : Obj) (h : w.cell? a = some v) : (w.alloc o).cell? a = some v := by
  rw [World.cell?_alloc_lt _ _ _ (World.block_lt_of_cell? w _ h)]
  exact h
theorem results_cell {fn : Func} {t : Tmp} {ty : TypeId} (h : fn.results = #[.cell t ty]) (tmps : Array Value) (w : World) (b : Nat) (cs : List Value) (d : TypeDesc) (ht : tmps.getD t undef = .pointer (some ⟨b, 0, none⟩)) (hc : w.rangeAt b 0 cs) (hu : Tryd.prog.underlying ty = some d) (hd : d.isRow = true) (hi : (Tryd.prog.info? ty).map (·.size) = some cs.length) :
    (results fn tmps).run Tryd.prog w = .ok (.agg cs.toArray) w := by
  have hl := run_loadVar_mid (P := Tryd.prog) w b 0 ty cs d hc hu hd hi
  simp only [Array.getD_eq_getD_getElem?] at ht
  simp [results, h, ht, hl, asAddr]
theorem pls_range {W : World} {P n i : Nat} {cs : Array Value} {pl : Nat → List Int} {t : TypeId} (hP : W.heap[P]? = some (.cells cs t (0, 0))) (h : Pls cs n pl) (hi : i < n) (hl : (pl i).length = 192) : W.rangeAt P (i * 192) ((pl i).map (Value.int .u8)) := fun j v hv => by
  have hj : j < 192 := by
    have := (List.getElem?_eq_some_iff.1 hv).1
    rw [List.length_map, hl] at this
    exact this
  rw [cell_of_row _ _ _ _ _ _ hP, Nat.mul_comm, h.2 i hi j hj, ← hv]
  simp [List.getD, show j < (pl i).length by omega]
end Go.Proofs.YtcggbnggmglphaaDoor.Disk
namespace Go.Proofs.YtcggbnggmglphaaDoor.Disk.Plain
set_option maxRecDepth 100000
end Go.Proofs.YtcggbnggmglphaaDoor.Disk.Plain
namespace Go.Proofs.YtcggbnggmglphaaDoor.Disk
set_option maxRecDepth 100000
set_option linter.unusedVariables false
open Go.RowKit Go.Proofs.YtcggbnggmglphaaDoor.Plain Go.Proofs.YtcggbnggmglphaaDoor.Disk.Plain
theorem At.nx {w w' : World} {D P : Nat} {uv ov uv' ov' : Value} {d' : Dk} {fp : Nat → Prop} (h2 : ∀ k, foot D P uv ov k → fp k) (i1 : At w' D P uv' ov' d') (t1 : Turned (foot D P uv ov) w w') (s1 : ∀ k, foot D P uv' ov' k → foot D P uv ov k ∨ w.heap.size ≤ k) : Nx D fp w w' d' :=
  ⟨foot D P uv' ov', ⟨P, uv', ov', i1, fun _ hk => hk⟩, ⟨t1.os, t1.tape, t1.output, t1.size, fun k hk hn => t1.block k hk (fun hf => hn (h2 k hf))⟩, fun k hk => (s1 k hk).imp (h2 k) id⟩
/-- A disk without what it was asked. -/
def rdOk (d : Dk) (i : Int) : Dk := { d with ops := d.ops ++ [(1, i)] }
end Go.Proofs.YtcggbnggmglphaaDoor.Disk
