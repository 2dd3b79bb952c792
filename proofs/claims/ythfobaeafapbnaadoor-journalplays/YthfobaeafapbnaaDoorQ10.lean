/-
 A write built of a place and its bytes, and a slice of one write; what the Go method Write of package disk does, for every disk, place and bytes.
-/
import Derived.Test.YthfobaeafapbnaaDoorQ01
import Derived.Test.YthfobaeafapbnaaDoorQ09
set_option linter.unusedVariables false
set_option maxRecDepth 100000
namespace Go.Proofs.YthfobaeafapbnaaDoor.Disk.Plain
end Go.Proofs.YthfobaeafapbnaaDoor.Disk.Plain
namespace Go.Proofs.YthfobaeafapbnaaDoor.Disk
open Go.RowKit Go.Proofs.YthfobaeafapbnaaDoor.Plain Go.Proofs.YthfobaeafapbnaaDoor.Disk.Plain
theorem splice_set (cs : List Value) (o : Nat) (v : Value) (r : List Value) (h : o + (r.length + 1) <= cs.length) : splice (cs.set o v) (o + 1) r = splice cs o (v :: r) := by
 simp only [splice, List.length_cons] at *
 have ho : o < cs.length := by omega
 have hm : min o cs.length = o := by omega
 rw [List.take_set, List.drop_set_of_lt (by omega), List.take_add_one, List.set_append]
 simp [ho, hm, Nat.add_assoc, Nat.add_comm 1]
theorem fold_splice : ∀ (l : List Value) (k off : Nat) (cs : Array Value), off + k + l.length <= cs.size -> (l.zipIdx k).foldl (fun cs x => cs.setIfInBounds (off + x.2) x.1) cs = (splice cs.toList (off + k) l).toArray
 | [], k, off, cs, h => by simp [splice]
 | v :: r, k, off, cs, h => by
  simp only [List.length_cons] at h
  rw [List.zipIdx_cons, List.foldl_cons]
  have ih := fold_splice r (k + 1) off (cs.setIfInBounds (off + k) v) (by simp; omega)
  simp only at ih ⊢
  rw [ih]
  congr 1
  have e : (cs.setIfInBounds (off + k) v).toList = cs.toList.set (off + k) v := by simp
  rw [e, show off + (k + 1) = off + k + 1 by omega]
  exact splice_set _ _ _ _ (by simp; omega)
theorem fill_step (place : Nat -> Option (Nat × Nat)) (cells : Array Value) (i off size : Nat) (v : Value) (A : Array Value) (hc : v.cells = A) (rest : List (Nat × Value)) (hp : place i = some (off, size)) (hA : A.size = size) (hf : off + size <= cells.size) :
  Instr.fill place cells ((i, v) :: rest) = Instr.fill place (splice cells.toList off A.toList).toArray rest := by
 have h1 : ¬ (A.size ≠ size || off + A.size > cells.size) = true := by simp; omega
 rw [Instr.fill, hp]
 simp only [hc]
 rw [if_neg h1]
 congr 1
 rw [<- Array.foldl_toList, Array.toList_zipIdx]
 have := fold_splice A.toList 0 off cells (by simp; omega)
 rw [Nat.add_zero] at this
 rw [<- this]
theorem built84z (parts : List (Nat × Value)) : Tryd.prog.built 123 parts = Instr.fill (fun i => #[(0, 1), (1, 192)][i]?) (wc (0, z192)).toArray parts := by kernel_rfl
theorem built84 (p : Nat) (B : List Int) (hB : B.length = 192) : Tryd.prog.built 123 [(0, .int .i64 (p : Int)), (1, .agg (u8s B))] = some (wc (p, B)).toArray := by
 have hz : (wc (0, z192)).length = 193 := length_wc _ length_z192
 rw [built84z, fill_step _ _ 0 0 1 (.int .i64 (p : Int)) #[.int .i64 (p : Int)] rfl _ rfl rfl (by rw [List.size_toArray, hz]; omega), fill_step _ _ 1 1 192 (.agg (u8s B)) (u8s B) rfl _ rfl (by rw [size_u8s, hB]) (by simp only [List.size_toArray, splice, List.length_append, List.length_take, List.length_drop, hz, List.length_cons, List.length_nil]; omega), Instr.fill]
 congr 1
 simp only [splice, wc, u8s]
 simp [hB, length_z192]
theorem build84 {o : Oper} {ρ : Operand -> Value} (w : World) (p : Nat) (B : List Int) (hB : B.length = 192) (x y : Operand) (ho : o.op = .build 123 #[(0, x), (1, y)]) (hx : ρ x = .int .i64 (p : Int)) (hy : ρ y = .agg (u8s B)) :
  (execOp ρ o).run Tryd.prog w = .ok (.value (.agg (wc (p, B)).toArray)) w := by
 unfold execOp
 have := run_build (P := Tryd.prog) w 123 #[(0, .int .i64 (p : Int)), (1, .agg (u8s B))] _ (built84 p B hB)
 simp only [ho, List.map_toArray, List.map_cons, List.map_nil, hx, hy, Sem.run_bind, this, Result.andThen_ok, Sem.run_pure]
theorem one_slice {o : Oper} {ρ : Operand -> Value} (w : World) (t e : TypeId) (cs Z : Array Value) (n : Nat) (hn : 0 < n) (hm : n <= 16777216) (ht : Tryd.prog.underlying t = some (.slice e)) (hi : (Tryd.prog.info? e).map (·.size) = some n) (hz : (Tryd.prog.info? e).map (·.zero) = some (some (.agg Z))) (hZ : Z.size = n) (hc : cs.size = n) (x : Operand) (ho : o.op = .buildSlice t 1 #[(0, x)]) (hx : ρ x = .agg cs) :
  (execOp ρ o).run Tryd.prog w = .ok (.value (.slice (some ⟨w.heap.size, 0, none⟩) 1 1)) (w.alloc (.cells cs e)) := by
 cases hq : Tryd.prog.info? e with
 | none => simp [hq] at hi
 | some i =>
  have h1 : i.size = n := by simpa [hq] using hi
  have h2 : i.zero = some (.agg Z) := by simpa [hq] using hz
  have hsz : ((Array.range (1 * n)).map (fun k => Z[k % Z.size]!)).size = n := by simp
  have hfill : Instr.fill (fun i => some (i * n, n)) ((Array.range (1 * n)).map (fun k => Z[k % Z.size]!)) [(0, .agg cs)] = some cs := by
   rw [fill_step _ _ 0 0 n (.agg cs) cs rfl _ (by simp) hc (by rw [hsz]; omega), Instr.fill, splice_all _ _ (by rw [Array.length_toList, Array.length_toList, hsz, hc])]
  unfold execOp
  have hne : ¬ (1 * n = 0) := by omega
  have hng : ¬ (1 * n > 2 ^ 24) := by omega
  simp only [ho, List.map_toArray, List.map_cons, List.map_nil, hx, Instr.buildSlice, Sem.run_bind, run_underlying ht, Result.andThen_ok, sizeOf, typeInfo, Sem.run_pure, zeroValue, Value.cells]
  simp [hq, h1, h2, newRow]
  rw [Nat.one_mul] at hfill
  rw [if_neg (show ¬ 16777216 < n by omega), if_neg (show ¬ n = 0 by omega), hfill]
  simp 
section keep
variable {P : Program} {md : Region.Mode} {ops : Array Oper} {Q : Exit -> Act -> World -> Prop} {S : World -> Prop}
theorem keep_step {i : Nat} {o : Oper} {K : Act -> World -> Prop} {a : Act} {w : World} (ho : ops[i]? = some o) (hw : Region.wanted o (yielded ops a.tmps) = true) (h : Oper.wp P o a w K Q) : wpOp P ops Q i K a w := by
 unfold wpOp
 simp only [ho, hw, if_true]
 exact .inl h
theorem one_keep {i : Nat} {fuel : Nat} {listed : Array Bool} {a : Act} {w : World} (hr : Region.ready md ops listed = [i]) (h : wpOp P ops Q i (fun a' w' => S w' /\ wpAnyH P md ops Q S fuel (listed.setIfInBounds i true) a' w') a w) : wpAnyH P md ops Q S (fuel + 1) listed a w := by
 refine wpAnyH_all hr (by simp) (fun j hj => ?_)
 simp only [List.mem_cons, List.not_mem_nil, or_false] at hj
 subst hj
 exact h
theorem two_keep {i j : Nat} {fuel : Nat} {listed : Array Bool} {a : Act} {w : World} (hr : Region.ready md ops listed = [i, j]) (h : wpOp P ops Q i (fun a' w' => S w' /\ wpAnyH P md ops Q S fuel (listed.setIfInBounds i true) a' w') a w)
  (h2 : wpOp P ops Q j (fun a' w' => S w' /\ wpAnyH P md ops Q S fuel (listed.setIfInBounds j true) a' w') a w) : wpAnyH P md ops Q S (fuel + 1) listed a w := by
 refine wpAnyH_all hr (by simp) (fun k hk => ?_)
 simp only [List.mem_cons, List.not_mem_nil, or_false] at hk
 rcases hk with rfl | rfl
 ·exact h
 ·exact h2
theorem begin_keep {id : Nat} {a : Act} {w : World} (hm : P.follows .mixedOrders = true) (h : ∀ wd, wd = w.drew -> wpAnyH P .any ops Q S ops.size (Array.replicate ops.size false) a wd) : (Code.region id ops true).wp P Q a w :=
 wp_region_held (S := S) hm (h _ rfl)
theorem wp_store_one {o : Oper} {a : Act} {w : World} {K : Act -> World -> Prop} (t : TypeId) (x y : Operand) (ho : o.op = .store t x y) (hi : (P.info? t).map (·.size) = some 1) (v : Value) (hv : v.cells = #[v]) (h1 : v.oneCell' = true) (hy : a.eval y = v) {D k : Nat} (hx : a.eval x = .pointer (some ⟨D, k, none⟩)) (hc : (w.cell? ⟨D, k, none⟩).isSome = true) (hf : w.frozen? ⟨D, k, none⟩ = false) (h : K (a.put o.dst undef) (w.setCell ⟨D, k, none⟩ v)) : Oper.wp P o a w K Q := by
 have hs := run_storeCells_cells (P := P) D k [v] 0 w (fun j hj => by simp only [List.length_cons, List.length_nil] at hj; rw [show j = 0 by omega]; exact hc) (fun j hj => by simp only [List.length_cons, List.length_nil] at hj; rw [show j = 0 by omega]; exact hf) (fun u hu => by simp at hu; subst hu; exact h1)
 simp only [Nat.add_zero] at hs
 cases hq : P.info? t with
 | none => simp [hq] at hi
 | some i =>
  have hsz : i.size = 1 := by simpa [hq] using hi
  have hr : (storeVar t ⟨D, k, none⟩ v).run P w = .ok () (w.setCell ⟨D, k, none⟩ v) := by
   simp [storeVar, sizeOf, typeInfo, hq, hv, hsz, hs]
   rfl
  unfold Oper.wp execOp
  simp only [ho, hx, hy, Instr.storeAt, Instr.sureAddr, Sem.run_bind, Sem.run_pure, Result.andThen_ok, hr]
  exact h
end keep
theorem info84b : (Tryd.prog.info? 123).map (fun i => (i.zero, i.size, i.bytes)) = some (some (.agg (wc (0, z192)).toArray), 193, 200) := by kernel_rfl
theorem At.wrote {w w1 w2 : World} {D P : Nat} {uv ov v' : Value} {d : Dk} (h : At w D P uv ov d) (x : Nat × List Int) (hx : x.1 < d.n /\ x.2.length = 192 /\ Byt x.2) (hb : Below w.heap.size w w1) (ho : w2.ownsRow 0 123 193 v' (d.uw.length + 1) (wcs d.uw ++ wc x)) (hg : w1.grownBy w2 uv.ownBlock)
  (hv : ∀ k, v'.ownBlock = some k -> uv.ownBlock = some k ∨ w1.heap.size <= k) (hh : w2.heap[D]? = w.heap[D]?) :
  At (w2.setCell ⟨D, 1, none⟩ v') D P v' ov { d with uw := d.uw ++ [x] } /\ Turned (foot D P uv ov) w (w2.setCell ⟨D, 1, none⟩ v') /\ ∀ k, foot D P v' ov k -> foot D P uv ov k ∨ w.heap.size <= k := by
 obtain ⟨cs, h1, h2⟩ := h.hp
 have hlt := h.lt
 have hle := hb.size
 have hv' : ∀ k, v'.ownBlock = some k -> uv.ownBlock = some k ∨ w.heap.size <= k := fun k hk => (hv k hk).imp id (fun h => by omega)
 have same : ∀ k, k < w.heap.size -> k ≠ D -> uv.ownBlock ≠ some k -> (w2.setCell ⟨D, 1, none⟩ v').heap[k]? = w.heap[k]? := fun k hk hne hno => by
  rw [heap_setCell_other w2 ⟨D, 1, none⟩ k _ hne, hg.block k (by omega) (Ne.symm hno), hb.block k hk]
 have hD : (w2.setCell ⟨D, 1, none⟩ v').heap[D]? = _ := heap_setCell_same w2 D 1 _ _ v' (hh.trans h.hd)
 have nD : v'.ownBlock ≠ some D := fun e => (hv' D e).elim h.neU.1 (fun hl => by have := hlt D (.inl rfl); omega)
 have nP : v'.ownBlock ≠ some P := fun e => (hv' P e).elim h.neU.2 (fun hl => by have := hlt P (.inr (.inl rfl)); omega)
 refine ⟨⟨hD, ⟨cs, ?_, h2⟩, h.hpl, h.hn, ?_, h.huw.snoc x hx, own_same h.ho (fun k hk => ?_), h.neP, ⟨nD, nP⟩, h.neO, ?_⟩, ⟨?_, ?_, ?_, ?_, fun k hk hn => ?_⟩, ?_⟩
 ·rw [same P (hlt P (.inr (.inl rfl))) (Ne.symm h.neP) h.neU.2]; exact h1
 ·rw [wcs_snoc, List.length_append, List.length_singleton]
  exact own_same ho (fun k hk => heap_setCell_other w2 ⟨D, 1, none⟩ k _ (ne_blk nD hk))
 ·refine same k (hlt k (.inr (.inr (.inr hk)))) (ne_blk h.neO.1 hk) (fun e => ?_)
  rcases h.neUO with hn | hn
  ·rw [hn] at e; cases e
  ·exact hn (by rw [hk, e])
 ·cases hu : v'.ownBlock with
  | none => exact .inl rfl
  | some u =>
   refine .inr (fun e => ?_)
   rcases hv' u hu with h5 | h5
   ·rcases h.neUO with hn | hn
    ·rw [hn] at h5; cases h5
    ·exact hn (by rw [h5, e])
   ·have := hlt u (.inr (.inr (.inr e.symm))); omega
 ·exact hg.os.trans hb.os
 ·exact hg.tape.trans hb.tape
 ·exact hg.output.trans hb.output
 ·have := hg.size; simp; omega
 ·exact same k hk (fun e => hn (.inl e)) (fun e => hn (.inr (.inr (.inl e))))
 ·rintro k (rfl | rfl | hk | hk)
  ·exact .inl (.inl rfl)
  ·exact .inl (.inr (.inl rfl))
  ·exact (hv' k hk).imp (fun h => .inr (.inr (.inl h))) id
  ·exact .inl (.inr (.inr (.inr hk)))
theorem At.set5a {w : World} {D P : Nat} {uv ov : Value} {d : Dk} (h : At w D P uv ov d) (l : Int) : At (w.setCell ⟨D, 5, none⟩ (.int .i64 l)) D P uv ov { d with left := l } /\ Turned (foot D P uv ov) w (w.setCell ⟨D, 5, none⟩ (.int .i64 l)) :=
 ⟨h.put d.down d.st l (fun k hk => by rw [heap_setCell_other _ ⟨D, 5, none⟩ k _ hk]) (heap_setCell_same w D 5 _ _ _ h.hd), turned_set (Turned.refl _ _) (.inl rfl) _⟩
def wrOk (d : Dk) (i : Nat) (B : List Int) : Dk := { d with uw := d.uw ++ [(i, B)], ops := d.ops ++ [(2, (i : Int))], left := if d.st then d.left - 1 else d.left }
structure Pre (wd : World) (D P : Nat) (uv ov : Value) (d : Dk) (i : Nat) (B : List Int) (bb off : Nat) : Prop where
 at1 : At wd D P uv ov d
 rng : wd.rangeAt bb off (B.map (Value.int .u8))
 nf : ¬ foot D P uv ov bb
 hi : i < d.n
 hB : B.length = 192 /\ Byt B
 hu : d.uw.length < 1000000
theorem Pre.facts {wd : World} {D P : Nat} {uv ov : Value} {d : Dk} {i : Nat} {B : List Int} {bb off : Nat} (h : Pre wd D P uv ov d i B bb off) :
  ∀ v' w2, w2.ownsRow 0 123 193 v' (d.uw.length + 1) (wcs d.uw ++ wc (i, B)) -> (wd.alloc (.cells (wc (i, B)).toArray 123)).grownBy w2 uv.ownBlock -> (∀ k, v'.ownBlock = some k -> uv.ownBlock = some k ∨ (wd.alloc (.cells (wc (i, B)).toArray 123)).heap.size <= k) ->
   w2.rangeAt bb off (B.map (Value.int .u8)) /\ ((w2.cell? ⟨D, 1, none⟩).isSome = true /\ w2.frozen? ⟨D, 1, none⟩ = false) /\ (w2.setCell ⟨D, 1, none⟩ v').rangeAt bb off (B.map (Value.int .u8)) /\
    (At (w2.setCell ⟨D, 1, none⟩ v') D P v' ov { d with uw := d.uw ++ [(i, B)] } /\ Turned (foot D P uv ov) wd (w2.setCell ⟨D, 1, none⟩ v') /\ ∀ k, foot D P v' ov k -> foot D P uv ov k ∨ wd.heap.size <= k) := by
 intro v' w2 hown hgr hblk
 obtain ⟨-, c1, -, -, -, -, fz⟩ := h.at1.cells
 have HD := h.at1.after _ _ h.at1.neU.1 hgr
 have c1' : w2.cell? ⟨D, 1, none⟩ = some uv := (World.cell?_of_block HD).trans c1
 have f1' : w2.frozen? ⟨D, 1, none⟩ = false := (World.frozen?_of_block HD).trans (fz 1)
 have hw := h.at1.wrote (i, B) ⟨h.hi, h.hB.1, h.hB.2⟩ ((Below.refl _ wd).alloc (Nat.le_refl _) _) hown hgr hblk HD
 have r1 : w2.rangeAt bb off (B.map (Value.int .u8)) := fun j v hv => hgr.cell (World.rangeAt_alloc h.rng _ j v hv) (fun e => h.nf (.inr (.inr (.inl e.symm))))
 refine ⟨r1, ⟨by rw [c1']; rfl, f1'⟩, fun j v hv => ?_, hw⟩
 rw [World.cell?_setCell_other _ _ _ _ (fun e => h.nf (.inl (by have := congrArg Addr.block e; exact this.symm)))]
 exact r1 j v hv
theorem exec_s2a {o : Oper} {ρ : Operand -> Value} (w' : World) (x : Operand) (ho : o.op = .sliceToArrayPointer 121 x) (a : Option Addr) (len cap : Nat) (hx : ρ x = .slice a len cap) (h : 192 <= len) : (execOp ρ o).run Tryd.prog w' = .ok (.value (.pointer a)) w' := by
 unfold execOp
 simp only [ho, hx, Instr.arrayAt, Sem.run_bind, run_underlying Tryd.underlying121, Result.andThen_ok]
 rw [if_neg (by omega)]
 rfl
theorem pre_keep {w w1 wd : World} {D P : Nat} {uv ov : Value} {d : Dk} {i : Nat} {B : List Int} {bb off : Nat} (h : Pre w1 D P uv ov d i B bb off /\ Turned (foot D P uv ov) w w1 /\ w1.heap.size = w.heap.size) (hwd : wd = w1.drew) :
  Box (wd.rangeAt bb off (B.map (Value.int .u8))) /\ wd.cell? ⟨D, 1, none⟩ = some uv /\ Box ((wd.alloc (.cells (wc (i, B)).toArray 123)).rangeAt bb off (B.map (Value.int .u8))) /\ Box ((wd.alloc (.cells (wc (i, B)).toArray 123)).ownsRow 0 123 193 uv d.uw.length (wcs d.uw)) /\
   Box (∀ v' w2, w2.ownsRow 0 123 193 v' (d.uw.length + 1) (wcs d.uw ++ wc (i, B)) -> (wd.alloc (.cells (wc (i, B)).toArray 123)).grownBy w2 uv.ownBlock -> (∀ k, v'.ownBlock = some k -> uv.ownBlock = some k ∨ (wd.alloc (.cells (wc (i, B)).toArray 123)).heap.size <= k) ->
    w2.rangeAt bb off (B.map (Value.int .u8)) /\ ((w2.cell? ⟨D, 1, none⟩).isSome = true /\ w2.frozen? ⟨D, 1, none⟩ = false) /\ (w2.setCell ⟨D, 1, none⟩ v').rangeAt bb off (B.map (Value.int .u8)) /\
     (At (w2.setCell ⟨D, 1, none⟩ v') D P v' ov { d with uw := d.uw ++ [(i, B)] } /\ Turned (foot D P uv ov) wd (w2.setCell ⟨D, 1, none⟩ v') /\ ∀ k, foot D P v' ov k -> foot D P uv ov k ∨ wd.heap.size <= k)) /\
   Box (Turned (foot D P uv ov) w wd /\ wd.heap.size = w.heap.size) := by
 obtain ⟨h1, t1, z1⟩ := h
 have hp : Pre wd D P uv ov d i B bb off := by
  subst hwd
  exact ⟨h1.at1.below (Below.refl _ _).drew, h1.rng, h1.nf, h1.hi, h1.hB, h1.hu⟩
 refine ⟨⟨hp.rng⟩, hp.at1.cells.2.1, ⟨World.rangeAt_alloc hp.rng _⟩, ⟨hp.at1.hu.alloc _⟩, ⟨hp.facts⟩, ⟨?_, ?_⟩⟩
 ·subst hwd; exact ⟨t1.os, t1.tape, t1.output, t1.size, t1.block⟩
 ·subst hwd; exact z1
theorem pre_five {w : World} {D P : Nat} {uv ov : Value} {d : Dk} {i : Nat} {B : List Int} {bb off : Nat} (h : Pre w D P uv ov d i B bb off) (l : Int) :
  Pre (w.setCell ⟨D, 5, none⟩ (.int .i64 l)) D P uv ov { d with left := l } i B bb off /\ Turned (foot D P uv ov) w (w.setCell ⟨D, 5, none⟩ (.int .i64 l)) /\ (w.setCell ⟨D, 5, none⟩ (.int .i64 l)).heap.size = w.heap.size := by
 obtain ⟨a1, t1⟩ := h.at1.set5a l
 refine ⟨⟨a1, fun j v hv => ?_, h.nf, h.hi, h.hB, h.hu⟩, t1, by simp⟩
 rw [World.cell?_setCell_other _ _ _ _ (fun e => h.nf (.inl (by have := congrArg Addr.block e; exact this.symm)))]
 exact h.rng j v hv
theorem wrote_nx {w wd w3 w4 : World} {D P : Nat} {uv ov v' ov' : Value} {d3 d4 d' : Dk} {fp : Nat -> Prop} (h2 : ∀ k, foot D P uv ov k -> fp k) (h0 : Turned (foot D P uv ov) w wd /\ wd.heap.size = w.heap.size)
  (h3 : At w3 D P v' ov d3 /\ Turned (foot D P uv ov) wd w3 /\ ∀ k, foot D P v' ov k -> foot D P uv ov k ∨ wd.heap.size <= k) (h4 : At w4 D P v' ov' d4 /\ Turned (foot D P v' ov) w3 w4 /\ ∀ k, foot D P v' ov' k -> foot D P v' ov k ∨ w3.heap.size <= k) (he : d4 = d') : Nx D fp w w4 d' := by
 subst he
 obtain ⟨t0, z0⟩ := h0
 obtain ⟨i3, t3, s3⟩ := h3
 obtain ⟨i4, t4, s4⟩ := h4
 have hz := t3.size
 refine At.nx (uv' := v') (ov' := ov') h2 i4 ((t0.trans t3 (fun k hk => .inl hk)).trans t4 (fun k hk => (s3 k hk).imp id (fun h => by omega))) (fun k hk => ?_)
 rcases s4 k hk with h | h
 ·exact (s3 k h).imp id (fun h => by omega)
 ·exact .inr (by omega)
set_option maxRecDepth 20000 in
set_option maxHeartbeats 4000000 in
theorem write_ok (w : World) (D : Nat) (fp : Nat -> Prop) (d : Dk) (h : Is w D fp d) (i : Nat) (a : Option Addr) (cap : Nat) (B : List Int) (hB : Bytes w a 192 B) (hap : ∀ ad, a = some ad -> ¬ fp ad.block) (hd : d.down = false) (hi : i < d.n) (hst : d.st = true -> d.left ≠ 0) (hl : 0 <= d.left /\ d.left <= 9223372036854775807) (ho : d.ops.length < 1000000) (hu : d.uw.length < 1000000) :
  Calls Tryd.prog 40 #[.pointer (some ⟨D, 0, none⟩), .int .i64 (i : Int), .slice a 192 cap] w fun e w' => e = .returned (.int .i64 0) /\ Nx D fp w w' (wrOk d i B) := by
 obtain ⟨P, uv, ov, h1, h2⟩ := h
 have H := ready_any w D P uv ov d h1
 rw [show rdy d = 0 by simp [rdy, hd]] at H
 have HR : Box _ := ⟨H⟩
 have H2 := fits_any w D P uv ov d h1 i a 192 cap
 rw [show fit d i 192 = 0 by simp [fit, hsp, hi]] at H2
 have HH : Box _ := ⟨H2⟩
 obtain ⟨bb, off, rfl, hbb, hcB⟩ := hB.2.2 (by omega)
 have hrng : w.rangeAt bb off (B.map (Value.int .u8)) := fun j v hv => by
  have hj : j < B.length := by simpa using (List.getElem?_eq_some_iff.1 hv).1
  rw [hcB j (by rw [<- hB.1]; exact hj), <- hv]
  simp [hj]
 have hnf : ¬ foot D P uv ov bb := fun hf => hap _ rfl (h2 _ hf)
 have HP : Box (Pre w D P uv ov d i B bb off) := ⟨⟨h1, hrng, hnf, hi, ⟨hB.1, hB.2.1⟩, hu⟩⟩
 have HF : Box (∀ k, foot D P uv ov k -> fp k) := ⟨h2⟩
 have HO : Box (d.ops.length < 1000000000) := ⟨by omega⟩
 have HBl : Box (B.length = 192) := ⟨hB.1⟩
 have GI : Box ((Tryd.prog.info? 121).map (·.size) = some (B.map (Value.int .u8)).length) := ⟨by rw [List.length_map, hB.1]; exact info79⟩
 have HZ : Box ((wc (0, z192)).toArray.size = 193) := ⟨length_wc _ length_z192⟩
 have HW : Box ((wc (i, B)).toArray.size = 193) := ⟨length_wc _ hB.1⟩
 have HW1 : Box ((wc (i, B)).length = 1 * 193) := ⟨length_wc _ hB.1⟩
 have HBy : Box ((d.uw.length + 1) * 200 <= 140737488355328) := ⟨by omega⟩
 obtain ⟨-, -, -, -, c4, c5, fz⟩ := h1.cells
 have f5 := fz 5
 have hwr : IntKind.i64.wrap (d.left - 1) = d.left - 1 ∨ d.st = false := by
  cases hs : d.st with
  | false => exact .inr rfl
  | true =>
   have := hst hs
   refine .inl ?_
   rw [IntKind.wrap_i64]
   omega
 have hle : d.st = true -> (d.left == 0) = false := fun hs => by simpa using hst hs
 clear H H2 h1 h2 hB hap hd hi hl ho hu hcB hrng hnf hst fz
 cases hs : d.st
 case false =>
  rw [hs] at c4
  clear hwr hle f5 c5
  go_enter Tryd.func40, Tryd.ntmps40
  go_upto_region 12 with (first
   | (go_at_call 57; refine HR.out.mono ?_; rintro e w' ⟨rfl, rfl⟩)
   | (go_at_call 58; refine HH.out.mono ?_; rintro e w' ⟨rfl, rfl⟩))
  have HP1 : Box (Pre w D P uv ov d i B bb off /\ Turned (foot D P uv ov) w w /\ w.heap.size = w.heap.size) := ⟨HP.out, Turned.refl _ _, rfl⟩
  rename_i KK ax
  refine begin_keep (S := fun w' => w'.rangeAt bb off (B.map (Value.int .u8))) (by kernel_rfl) (fun wd hwd => ?_)
  obtain ⟨HSd, c1d, HSa, HOw, HK, HT0⟩ := pre_keep HP1.out hwd
  clear HP1 HP hwd
  refine wpAnyH_take (i := 0) (v := ?_) rfl (by kernel_rfl) (by kernel_rfl) (by kernel_rfl) (fun _ _ _ h => h) (Or.inl ⟨by rfl, ?_⟩) HSd.out ?_
  rotate_left
  ·intro w' hB; clear hB; go_simp <;> with_reducible rfl
  try simp only [Act.put, pC, pD, pE, pF, pG]
  refine wpAnyH_take (i := 1) (v := ?_) rfl (by kernel_rfl) (by kernel_rfl) (by kernel_rfl) (fun _ _ _ h => h) (Or.inl ⟨by rfl, ?_⟩) HSd.out ?_
  rotate_left
  ·intro w' hB; clear hB; go_simp <;> with_reducible rfl
  try simp only [Act.put, pC, pD, pE, pF, pG, pH]
  refine wpAnyH_take (i := 2) (v := ?_) rfl (by kernel_rfl) (by kernel_rfl) (by kernel_rfl) (fun _ _ _ h => h) (Or.inl ⟨by rfl, ?_⟩) HSd.out ?_
  rotate_left
  ·intro w' hB; clear hB; go_simp <;> with_reducible rfl
  try simp only [Act.put, pC, pD, pE, pF, pG, pH]
  refine wpAnyH_take (i := 3) (v := ?_) rfl (by kernel_rfl) (by kernel_rfl) (by kernel_rfl) (fun _ _ _ h => h) (Or.inl ⟨by rfl, ?_⟩) HSd.out ?_
  rotate_left
  ·intro w' hB; clear hB; go_simp <;> with_reducible rfl
  try simp only [Act.put, pC, pD, pE, pF, pG, pH]
  refine wpAnyH_take (i := 5) (v := ?_) rfl (by kernel_rfl) (by kernel_rfl) (by kernel_rfl) (fun _ _ _ h => h) (Or.inl ⟨by rfl, ?_⟩) HSd.out ?_
  rotate_left
  ·intro w' hB; clear hB; go_simp <;> with_reducible rfl
  try simp only [Act.put, pC, pD, pE, pF, pG, pH]
  refine wpAnyH_take (i := 6) (v := ?_) rfl (by kernel_rfl) (by kernel_rfl) (by kernel_rfl) (fun _ _ _ h => h) (Or.inl ⟨by rfl, ?_⟩) HSd.out ?_
  rotate_left
  ·intro w' hB; clear hB; go_simp <;> with_reducible rfl
  try simp only [Act.put, pC, pD, pE, pF, pG, pH]
  refine wpAnyH_take (i := 7) (v := .pointer (some ⟨bb, off, none⟩)) rfl (by kernel_rfl) (by kernel_rfl) (by kernel_rfl) (fun _ _ _ h => h) (Or.inl ⟨by rfl, fun w' hB => exec_s2a w' _ rfl _ 192 cap rfl (Nat.le_refl _)⟩) HSd.out ?_
  try simp only [Act.put, pC, pD, pE, pF, pG, pH]
  refine wpAnyH_take (i := 8) (v := .agg (u8s B)) rfl (by kernel_rfl) (by kernel_rfl) (by kernel_rfl) (fun _ _ _ h => h) (Or.inl ⟨by rfl, fun w' hB => exec_load_mid 121 _ _ rfl Tryd.underlying121 rfl bb off rfl (B.map (Value.int .u8)) GI.out hB⟩) HSd.out ?_
  try simp only [Act.put, pC, pD, pE, pF, pG, pH]
  refine wpAnyH_take (i := 9) (v := .agg (wc (i, B)).toArray) rfl (by kernel_rfl) (by kernel_rfl) (by kernel_rfl) (fun _ _ _ h => h) (Or.inl ⟨by rfl, fun w' hB => build84 w' i B HBl.out _ _ rfl rfl rfl⟩) HSd.out ?_
  try simp only [Act.put, pC, pD, pE, pF, pG, pH]
  refine two_keep (i := 4) (j := 10) (by kernel_rfl) (keep_step rfl (by rfl) ?a4) (keep_step rfl (by rfl) ?a10)
  case a4 =>
   unfold Oper.wp
   rw [exec_load1 73 _ _ rfl Tryd.underlying73 rfl _ rfl _ c1d]
   refine ⟨HSd.out, ?_⟩
   try simp only [Act.put, pC, pD, pE, pF, pG, pH]
   refine one_keep (i := 10) (by kernel_rfl) (keep_step rfl (by rfl) ?_)
   unfold Oper.wp
   rw [one_slice wd 73 123 (wc (i, B)).toArray _ 193 (by decide) (by decide) Tryd.underlying73 info84 zero84 HZ.out HW.out _ rfl rfl]
   refine ⟨HSa.out, ?_⟩
   try simp only [Act.put, pC, pD, pE, pF, pG, pH]
   refine one_keep (i := 11) (by kernel_rfl) (keep_step rfl (by rfl) ?_)
   refine wp_app _ _ 73 rfl 123 193 200 (.agg (wc (0, z192)).toArray) Tryd.underlying73 info84b HZ.out (by decide) uv d.uw.length (wcs d.uw) rfl HOw.out ⟨wd.heap.size, 0, none⟩ 1 1 (wc (i, B)) rfl HW1.out (news_new wd (wc (i, B)) _) (one_wc _) HBy.out (by decide) ?_
   intro v' w2 hown hgr hblk
   obtain ⟨a', cap', rfl⟩ := own_form2 hown
   have HX : Box _ := ⟨HK.out _ w2 hown hgr hblk⟩
   clear hown hgr hblk
   refine ⟨HX.out.1, ?_⟩
   have HSd2 : Box (w2.rangeAt bb off (B.map (Value.int .u8))) := ⟨HX.out.1⟩
   try simp only [Act.put, pC, pD, pE, pF, pG, pH]
   refine wpAnyH_take (i := 12) (v := ?_) rfl (by kernel_rfl) (by kernel_rfl) (by kernel_rfl) (fun _ _ _ h => h) (Or.inl ⟨by rfl, ?_⟩) HSd2.out ?_
   rotate_left
   ·intro w' hB; clear hB; go_simp <;> with_reducible rfl
   try simp only [Act.put, pC, pD, pE, pF, pG, pH]
   refine wpAnyH_take (i := 13) (v := ?_) rfl (by kernel_rfl) (by kernel_rfl) (by kernel_rfl) (fun _ _ _ h => h) (Or.inl ⟨by rfl, ?_⟩) HSd2.out ?_
   rotate_left
   ·intro w' hB; clear hB; go_simp <;> with_reducible rfl
   try simp only [Act.put, pC, pD, pE, pF, pG, pH]
   refine one_keep (i := 14) (by kernel_rfl) (keep_step rfl (by rfl) ?_)
   unfold Oper.wp
   refine wp_store_one 73 _ _ rfl (by kernel_rfl) (.slice a' (d.uw.length + 1) cap') rfl rfl rfl (D := D) (k := 1) rfl HX.out.2.1.1 HX.out.2.1.2 ?_
   refine ⟨HX.out.2.2.1, ?_⟩
   refine wpAnyH_done (by kernel_rfl) ?_ _
   show KK _ _
   refine ax _ _ ?_
   try simp only [Act.put, pF, pG, pH]
   have HY : Box _ := ⟨HX.out.2.2.2⟩
   clear HX ax HSd HSd2 HSa HOw HK c1d
   generalize w2.setCell ⟨D, 1, none⟩ (.slice a' (d.uw.length + 1) cap') = w3 at HY ⊢
   go_wp2_with (go_at_call 59; refine (note_at w3 D P _ ov _ HY.out.1 2 i HO.out).mono ?_; rintro e w4 ⟨rfl, ov', hn4⟩; have HN4 : Box _ := ⟨hn4⟩; clear hn4)
   go_ret
   exact ⟨rfl, wrote_nx HF.out HT0.out HY.out HN4.out (by simp [wrOk, hs])⟩
  case a10 =>
   unfold Oper.wp
   rw [one_slice wd 73 123 (wc (i, B)).toArray _ 193 (by decide) (by decide) Tryd.underlying73 info84 zero84 HZ.out HW.out _ rfl rfl]
   refine ⟨HSa.out, ?_⟩
   try simp only [Act.put, pC, pD, pE, pF, pG, pH]
   refine one_keep (i := 4) (by kernel_rfl) (keep_step rfl (by rfl) ?_)
   unfold Oper.wp
   rw [exec_load1 73 _ _ rfl Tryd.underlying73 rfl _ rfl _ (cell_al _ c1d)]
   refine ⟨HSa.out, ?_⟩
   try simp only [Act.put, pC, pD, pE, pF, pG, pH]
   refine one_keep (i := 11) (by kernel_rfl) (keep_step rfl (by rfl) ?_)
   refine wp_app _ _ 73 rfl 123 193 200 (.agg (wc (0, z192)).toArray) Tryd.underlying73 info84b HZ.out (by decide) uv d.uw.length (wcs d.uw) rfl HOw.out ⟨wd.heap.size, 0, none⟩ 1 1 (wc (i, B)) rfl HW1.out (news_new wd (wc (i, B)) _) (one_wc _) HBy.out (by decide) ?_
   intro v' w2 hown hgr hblk
   obtain ⟨a', cap', rfl⟩ := own_form2 hown
   have HX : Box _ := ⟨HK.out _ w2 hown hgr hblk⟩
   clear hown hgr hblk
   refine ⟨HX.out.1, ?_⟩
   have HSd2 : Box (w2.rangeAt bb off (B.map (Value.int .u8))) := ⟨HX.out.1⟩
   try simp only [Act.put, pC, pD, pE, pF, pG, pH]
   refine wpAnyH_take (i := 12) (v := ?_) rfl (by kernel_rfl) (by kernel_rfl) (by kernel_rfl) (fun _ _ _ h => h) (Or.inl ⟨by rfl, ?_⟩) HSd2.out ?_
   rotate_left
   ·intro w' hB; clear hB; go_simp <;> with_reducible rfl
   try simp only [Act.put, pC, pD, pE, pF, pG, pH]
   refine wpAnyH_take (i := 13) (v := ?_) rfl (by kernel_rfl) (by kernel_rfl) (by kernel_rfl) (fun _ _ _ h => h) (Or.inl ⟨by rfl, ?_⟩) HSd2.out ?_
   rotate_left
   ·intro w' hB; clear hB; go_simp <;> with_reducible rfl
   try simp only [Act.put, pC, pD, pE, pF, pG, pH]
   refine one_keep (i := 14) (by kernel_rfl) (keep_step rfl (by rfl) ?_)
   unfold Oper.wp
   refine wp_store_one 73 _ _ rfl (by kernel_rfl) (.slice a' (d.uw.length + 1) cap') rfl rfl rfl (D := D) (k := 1) rfl HX.out.2.1.1 HX.out.2.1.2 ?_
   refine ⟨HX.out.2.2.1, ?_⟩
   refine wpAnyH_done (by kernel_rfl) ?_ _
   show KK _ _
   refine ax _ _ ?_
   try simp only [Act.put, pF, pG, pH]
   have HY : Box _ := ⟨HX.out.2.2.2⟩
   clear HX ax HSd HSd2 HSa HOw HK c1d
   generalize w2.setCell ⟨D, 1, none⟩ (.slice a' (d.uw.length + 1) cap') = w3 at HY ⊢
   go_wp2_with (go_at_call 59; refine (note_at w3 D P _ ov _ HY.out.1 2 i HO.out).mono ?_; rintro e w4 ⟨rfl, ov', hn4⟩; have HN4 : Box _ := ⟨hn4⟩; clear hn4)
   go_ret
   exact ⟨rfl, wrote_nx HF.out HT0.out HY.out HN4.out (by simp [wrOk, hs])⟩
 case true =>
  rw [hs] at c4
  replace hwr : IntKind.i64.wrap (d.left - 1) = d.left - 1 := hwr.resolve_right (by rw [hs]; simp)
  replace hle := hle hs
  have HP1 : Box (Pre (w.setCell ⟨D, 5, none⟩ (.int .i64 (d.left - 1))) D P uv ov { d with left := d.left - 1 } i B bb off /\ Turned (foot D P uv ov) w (w.setCell ⟨D, 5, none⟩ (.int .i64 (d.left - 1))) /\ (w.setCell ⟨D, 5, none⟩ (.int .i64 (d.left - 1))).heap.size = w.heap.size) := ⟨pre_five HP.out _⟩
  go_enter Tryd.func40, Tryd.ntmps40
  go_upto_region 12 with (first | (go_at_call 57; refine HR.out.mono ?_; rintro e w' ⟨rfl, rfl⟩) | (go_at_call 58; refine HH.out.mono ?_; rintro e w' ⟨rfl, rfl⟩))
  clear c4 c5 f5 hwr hle
  generalize w.setCell ⟨D, 5, none⟩ (.int .i64 (d.left - 1)) = w1 at HP1 ⊢
  rename_i KK ax
  refine begin_keep (S := fun w' => w'.rangeAt bb off (B.map (Value.int .u8))) (by kernel_rfl) (fun wd hwd => ?_)
  obtain ⟨HSd, c1d, HSa, HOw, HK, HT0⟩ := pre_keep HP1.out hwd
  clear HP1 HP hwd
  refine wpAnyH_take (i := 0) (v := ?_) rfl (by kernel_rfl) (by kernel_rfl) (by kernel_rfl) (fun _ _ _ h => h) (Or.inl ⟨by rfl, ?_⟩) HSd.out ?_
  rotate_left
  ·intro w' hB; clear hB; go_simp <;> with_reducible rfl
  try simp only [Act.put, pC, pD, pE, pF, pG]
  refine wpAnyH_take (i := 1) (v := ?_) rfl (by kernel_rfl) (by kernel_rfl) (by kernel_rfl) (fun _ _ _ h => h) (Or.inl ⟨by rfl, ?_⟩) HSd.out ?_
  rotate_left
  ·intro w' hB; clear hB; go_simp <;> with_reducible rfl
  try simp only [Act.put, pC, pD, pE, pF, pG, pH]
  refine wpAnyH_take (i := 2) (v := ?_) rfl (by kernel_rfl) (by kernel_rfl) (by kernel_rfl) (fun _ _ _ h => h) (Or.inl ⟨by rfl, ?_⟩) HSd.out ?_
  rotate_left
  ·intro w' hB; clear hB; go_simp <;> with_reducible rfl
  try simp only [Act.put, pC, pD, pE, pF, pG, pH]
  refine wpAnyH_take (i := 3) (v := ?_) rfl (by kernel_rfl) (by kernel_rfl) (by kernel_rfl) (fun _ _ _ h => h) (Or.inl ⟨by rfl, ?_⟩) HSd.out ?_
  rotate_left
  ·intro w' hB; clear hB; go_simp <;> with_reducible rfl
  try simp only [Act.put, pC, pD, pE, pF, pG, pH]
  refine wpAnyH_take (i := 5) (v := ?_) rfl (by kernel_rfl) (by kernel_rfl) (by kernel_rfl) (fun _ _ _ h => h) (Or.inl ⟨by rfl, ?_⟩) HSd.out ?_
  rotate_left
  ·intro w' hB; clear hB; go_simp <;> with_reducible rfl
  try simp only [Act.put, pC, pD, pE, pF, pG, pH]
  refine wpAnyH_take (i := 6) (v := ?_) rfl (by kernel_rfl) (by kernel_rfl) (by kernel_rfl) (fun _ _ _ h => h) (Or.inl ⟨by rfl, ?_⟩) HSd.out ?_
  rotate_left
  ·intro w' hB; clear hB; go_simp <;> with_reducible rfl
  try simp only [Act.put, pC, pD, pE, pF, pG, pH]
  refine wpAnyH_take (i := 7) (v := .pointer (some ⟨bb, off, none⟩)) rfl (by kernel_rfl) (by kernel_rfl) (by kernel_rfl) (fun _ _ _ h => h) (Or.inl ⟨by rfl, fun w' hB => exec_s2a w' _ rfl _ 192 cap rfl (Nat.le_refl _)⟩) HSd.out ?_
  try simp only [Act.put, pC, pD, pE, pF, pG, pH]
  refine wpAnyH_take (i := 8) (v := .agg (u8s B)) rfl (by kernel_rfl) (by kernel_rfl) (by kernel_rfl) (fun _ _ _ h => h) (Or.inl ⟨by rfl, fun w' hB => exec_load_mid 121 _ _ rfl Tryd.underlying121 rfl bb off rfl (B.map (Value.int .u8)) GI.out hB⟩) HSd.out ?_
  try simp only [Act.put, pC, pD, pE, pF, pG, pH]
  refine wpAnyH_take (i := 9) (v := .agg (wc (i, B)).toArray) rfl (by kernel_rfl) (by kernel_rfl) (by kernel_rfl) (fun _ _ _ h => h) (Or.inl ⟨by rfl, fun w' hB => build84 w' i B HBl.out _ _ rfl rfl rfl⟩) HSd.out ?_
  try simp only [Act.put, pC, pD, pE, pF, pG, pH]
  refine two_keep (i := 4) (j := 10) (by kernel_rfl) (keep_step rfl (by rfl) ?a4) (keep_step rfl (by rfl) ?a10)
  case a4 =>
   unfold Oper.wp
   rw [exec_load1 73 _ _ rfl Tryd.underlying73 rfl _ rfl _ c1d]
   refine ⟨HSd.out, ?_⟩
   try simp only [Act.put, pC, pD, pE, pF, pG, pH]
   refine one_keep (i := 10) (by kernel_rfl) (keep_step rfl (by rfl) ?_)
   unfold Oper.wp
   rw [one_slice wd 73 123 (wc (i, B)).toArray _ 193 (by decide) (by decide) Tryd.underlying73 info84 zero84 HZ.out HW.out _ rfl rfl]
   refine ⟨HSa.out, ?_⟩
   try simp only [Act.put, pC, pD, pE, pF, pG, pH]
   refine one_keep (i := 11) (by kernel_rfl) (keep_step rfl (by rfl) ?_)
   refine wp_app _ _ 73 rfl 123 193 200 (.agg (wc (0, z192)).toArray) Tryd.underlying73 info84b HZ.out (by decide) uv d.uw.length (wcs d.uw) rfl HOw.out ⟨wd.heap.size, 0, none⟩ 1 1 (wc (i, B)) rfl HW1.out (news_new wd (wc (i, B)) _) (one_wc _) HBy.out (by decide) ?_
   intro v' w2 hown hgr hblk
   obtain ⟨a', cap', rfl⟩ := own_form2 hown
   have HX : Box _ := ⟨HK.out _ w2 hown hgr hblk⟩
   clear hown hgr hblk
   refine ⟨HX.out.1, ?_⟩
   have HSd2 : Box (w2.rangeAt bb off (B.map (Value.int .u8))) := ⟨HX.out.1⟩
   try simp only [Act.put, pC, pD, pE, pF, pG, pH]
   refine wpAnyH_take (i := 12) (v := ?_) rfl (by kernel_rfl) (by kernel_rfl) (by kernel_rfl) (fun _ _ _ h => h) (Or.inl ⟨by rfl, ?_⟩) HSd2.out ?_
   rotate_left
   ·intro w' hB; clear hB; go_simp <;> with_reducible rfl
   try simp only [Act.put, pC, pD, pE, pF, pG, pH]
   refine wpAnyH_take (i := 13) (v := ?_) rfl (by kernel_rfl) (by kernel_rfl) (by kernel_rfl) (fun _ _ _ h => h) (Or.inl ⟨by rfl, ?_⟩) HSd2.out ?_
   rotate_left
   ·intro w' hB; clear hB; go_simp <;> with_reducible rfl
   try simp only [Act.put, pC, pD, pE, pF, pG, pH]
   refine one_keep (i := 14) (by kernel_rfl) (keep_step rfl (by rfl) ?_)
   unfold Oper.wp
   refine wp_store_one 73 _ _ rfl (by kernel_rfl) (.slice a' (d.uw.length + 1) cap') rfl rfl rfl (D := D) (k := 1) rfl HX.out.2.1.1 HX.out.2.1.2 ?_
   refine ⟨HX.out.2.2.1, ?_⟩
   refine wpAnyH_done (by kernel_rfl) ?_ _
   show KK _ _
   refine ax _ _ ?_
   try simp only [Act.put, pF, pG, pH]
   have HY : Box _ := ⟨HX.out.2.2.2⟩
   clear HX ax HSd HSd2 HSa HOw HK c1d
   generalize w2.setCell ⟨D, 1, none⟩ (.slice a' (d.uw.length + 1) cap') = w3 at HY ⊢
   go_wp2_with (go_at_call 59; refine (note_at w3 D P _ ov _ HY.out.1 2 i HO.out).mono ?_; rintro e w4 ⟨rfl, ov', hn4⟩; have HN4 : Box _ := ⟨hn4⟩; clear hn4)
   go_ret
   exact ⟨rfl, wrote_nx HF.out HT0.out HY.out HN4.out (by simp [wrOk, hs])⟩
  case a10 =>
   unfold Oper.wp
   rw [one_slice wd 73 123 (wc (i, B)).toArray _ 193 (by decide) (by decide) Tryd.underlying73 info84 zero84 HZ.out HW.out _ rfl rfl]
   refine ⟨HSa.out, ?_⟩
   try simp only [Act.put, pC, pD, pE, pF, pG, pH]
   refine one_keep (i := 4) (by kernel_rfl) (keep_step rfl (by rfl) ?_)
   unfold Oper.wp
   rw [exec_load1 73 _ _ rfl Tryd.underlying73 rfl _ rfl _ (cell_al _ c1d)]
   refine ⟨HSa.out, ?_⟩
   try simp only [Act.put, pC, pD, pE, pF, pG, pH]
   refine one_keep (i := 11) (by kernel_rfl) (keep_step rfl (by rfl) ?_)
   refine wp_app _ _ 73 rfl 123 193 200 (.agg (wc (0, z192)).toArray) Tryd.underlying73 info84b HZ.out (by decide) uv d.uw.length (wcs d.uw) rfl HOw.out ⟨wd.heap.size, 0, none⟩ 1 1 (wc (i, B)) rfl HW1.out (news_new wd (wc (i, B)) _) (one_wc _) HBy.out (by decide) ?_
   intro v' w2 hown hgr hblk
   obtain ⟨a', cap', rfl⟩ := own_form2 hown
   have HX : Box _ := ⟨HK.out _ w2 hown hgr hblk⟩
   clear hown hgr hblk
   refine ⟨HX.out.1, ?_⟩
   have HSd2 : Box (w2.rangeAt bb off (B.map (Value.int .u8))) := ⟨HX.out.1⟩
   try simp only [Act.put, pC, pD, pE, pF, pG, pH]
   refine wpAnyH_take (i := 12) (v := ?_) rfl (by kernel_rfl) (by kernel_rfl) (by kernel_rfl) (fun _ _ _ h => h) (Or.inl ⟨by rfl, ?_⟩) HSd2.out ?_
   rotate_left
   ·intro w' hB; clear hB; go_simp <;> with_reducible rfl
   try simp only [Act.put, pC, pD, pE, pF, pG, pH]
   refine wpAnyH_take (i := 13) (v := ?_) rfl (by kernel_rfl) (by kernel_rfl) (by kernel_rfl) (fun _ _ _ h => h) (Or.inl ⟨by rfl, ?_⟩) HSd2.out ?_
   rotate_left
   ·intro w' hB; clear hB; go_simp <;> with_reducible rfl
   try simp only [Act.put, pC, pD, pE, pF, pG, pH]
   refine one_keep (i := 14) (by kernel_rfl) (keep_step rfl (by rfl) ?_)
   unfold Oper.wp
   refine wp_store_one 73 _ _ rfl (by kernel_rfl) (.slice a' (d.uw.length + 1) cap') rfl rfl rfl (D := D) (k := 1) rfl HX.out.2.1.1 HX.out.2.1.2 ?_
   refine ⟨HX.out.2.2.1, ?_⟩
   refine wpAnyH_done (by kernel_rfl) ?_ _
   show KK _ _
   refine ax _ _ ?_
   try simp only [Act.put, pF, pG, pH]
   have HY : Box _ := ⟨HX.out.2.2.2⟩
   clear HX ax HSd HSd2 HSa HOw HK c1d
   generalize w2.setCell ⟨D, 1, none⟩ (.slice a' (d.uw.length + 1) cap') = w3 at HY ⊢
   go_wp2_with (go_at_call 59; refine (note_at w3 D P _ ov _ HY.out.1 2 i HO.out).mono ?_; rintro e w4 ⟨rfl, ov', hn4⟩; have HN4 : Box _ := ⟨hn4⟩; clear hn4)
   go_ret
   exact ⟨rfl, wrote_nx HF.out HT0.out HY.out HN4.out (by simp [wrOk, hs])⟩
end Go.Proofs.YthfobaeafapbnaaDoor.Disk
