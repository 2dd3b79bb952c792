/-
  Package disk, first part.
-/
import Derived.Test.YtnicgmimhgbcfaaGreatDoorMA
import Derived.Test.YtnicgmimhgbcfaaGreatDoorRows
import Derived.WalkKit
import Derived.WalkSpells
import Derived.WalkLawsBesides
import Derived.RangeFuncNested
import Derived.RangeFuncBound
import Derived.RangeFuncCalls
import Derived.RangeFuncLeaves
import Derived.Shelf.Abstract
import Derived.Shelf.RegionOpen
import Derived.OwnWalkIn
import Derived.TacticsInMore
import Derived.LoopNIn
import Derived.LoopIn
import Derived.OrdersHeld
namespace Go.Proofs.YtnicgmimhgbcfaaGreatDoor.Disk.Plain
end Go.Proofs.YtnicgmimhgbcfaaGreatDoor.Disk.Plain
namespace Go.Proofs.YtnicgmimhgbcfaaGreatDoor.Disk
set_option linter.unusedVariables false
set_option maxRecDepth 100000
open Go.RowKit Go.Proofs.YtnicgmimhgbcfaaGreatDoor.Plain Go.Proofs.YtnicgmimhgbcfaaGreatDoor.Disk.Plain

/-- The bytes of a place of noughts. -/
def z192 : List Int := List.replicate 192 0
theorem length_z192 : z192.length = 192 := List.length_replicate
theorem byt_z192 : Byt z192 := byt_zeros 192
theorem getD_zeros (n j : Nat) : (List.replicate n (0 : Int)).getD j 0 = 0 := by
  simp only [List.getD, List.getElem?_replicate]
  split <;> rfl
theorem getD_z192 (j : Nat) : z192.getD j 0 = 0 := getD_zeros 192 j
/-- A disk: so many places, their bytes, what is under way, the operations, whether it is down, whether it is told to stop, and after how many writes. -/
structure Dk where
  n : Nat
  pl : Nat → List Int
  uw : List (Nat × List Int)
  ops : List (Int × Int)
  down : Bool
  st : Bool
  left : Int
/-- The cells of a write. -/
def wc (x : Nat × List Int) : List Value := .int .i64 (x.1 : Int) :: x.2.map (Value.int .u8)
def wcs (L : List (Nat × List Int)) : List Value := (L.map wc).flatten
/-- The cells of an operation. -/
def oc (x : Int × Int) : List Value := [.int .i64 x.1, .int .i64 x.2]
def ocs (L : List (Int × Int)) : List Value := (L.map oc).flatten
theorem wcs_snoc (L : List (Nat × List Int)) (x : Nat × List Int) : wcs (L ++ [x]) = wcs L ++ wc x := by simp [wcs]
theorem ocs_snoc (L : List (Int × Int)) (x : Int × Int) : ocs (L ++ [x]) = ocs L ++ oc x := by simp [ocs]
theorem length_wc (x : Nat × List Int) (h : x.2.length = 192) : (wc x).length = 193 := by simp [wc, h]
theorem length_oc (x : Int × Int) : (oc x).length = 2 := rfl
theorem one_wc (x : Nat × List Int) : ∀ u ∈ wc x, u.oneCell' = true := by
  intro u hu
  simp only [wc, List.mem_cons, List.mem_map] at hu
  rcases hu with rfl | ⟨z, _, rfl⟩ <;> rfl
theorem one_oc (x : Int × Int) : ∀ u ∈ oc x, u.oneCell' = true := by
  intro u hu
  simp only [oc, List.mem_cons, List.not_mem_nil, or_false] at hu
  rcases hu with rfl | rfl <;> rfl
theorem flat_at (L : List (List Value)) (sz : Nat) (hL : ∀ x ∈ L, x.length = sz) (k : Nat) (hk : k < L.length) (j : Nat) (hj : j < sz) : L.flatten[sz * k + j]? = (L[k])[j]? := by
  induction L generalizing k with
  | nil => simp at hk
  | cons x L ih =>
    have hx : x.length = sz := hL x (by simp)
    cases k with
    | zero => simp [List.getElem?_append, hx, hj]
    | succ k =>
      have h1 : sz * (k + 1) + j - x.length = sz * k + j := by rw [hx, Nat.mul_succ]; omega
      rw [List.flatten_cons, List.getElem?_append_right (by rw [hx, Nat.mul_succ]; omega), h1, ih (fun y hy => hL y (by simp [hy])) k (by simpa using hk)]
      simp
theorem flat_length (L : List (List Value)) (sz : Nat) (hL : ∀ x ∈ L, x.length = sz) : L.flatten.length = L.length * sz := by
  induction L with
  | nil => simp
  | cons x L ih => simp [hL x (by simp), ih (fun y hy => hL y (by simp [hy])), Nat.succ_mul]; omega
def Good (n : Nat) (L : List (Nat × List Int)) : Prop := ∀ x ∈ L, x.1 < n ∧ x.2.length = 192 ∧ Byt x.2
theorem Good.snoc {n : Nat} {L : List (Nat × List Int)} (h : Good n L) (x : Nat × List Int) (hx : x.1 < n ∧ x.2.length = 192 ∧ Byt x.2) : Good n (L ++ [x]) := by
  intro y hy
  rcases List.mem_append.1 hy with hy | hy
  · exact h y hy
  · simp at hy; subst hy; exact hx
theorem Good.all {n : Nat} {L : List (Nat × List Int)} (h : Good n L) : ∀ x ∈ L.map wc, x.length = 193 := by
  intro x hx
  obtain ⟨y, hy, rfl⟩ := List.mem_map.1 hx
  exact length_wc y (h y hy).2.1
theorem ocs_all (L : List (Int × Int)) : ∀ x ∈ L.map oc, x.length = 2 := by
  intro x hx
  obtain ⟨y, hy, rfl⟩ := List.mem_map.1 hx
  rfl

/-- The blocks of a disk. -/
def foot (D P : Nat) (uv ov : Value) (k : Nat) : Prop := k = D ∨ k = P ∨ uv.ownBlock = some k ∨ ov.ownBlock = some k
/-- The places' bytes, in a row's cells. -/
def Pls (cs : Array Value) (n : Nat) (pl : Nat → List Int) : Prop := cs.size = 192 * n ∧ ∀ i, i < n → ∀ j, j < 192 → cs[192 * i + j]? = some (.int .u8 ((pl i).getD j 0))
/-- A disk lies in memory, its head in block D. -/
structure At (w : World) (D P : Nat) (uv ov : Value) (d : Dk) : Prop where
  hd : w.heap[D]? = some (.cells #[.slice (some ⟨P, 0, none⟩) d.n d.n, uv, ov, .bool d.down, .bool d.st, .int .i64 d.left] 95 (0, 0))
  hp : ∃ cs, w.heap[P]? = some (.cells cs 135 (0, 0)) ∧ Pls cs d.n d.pl
  hpl : ∀ i, (d.pl i).length = 192 ∧ Byt (d.pl i)
  hn : 1 ≤ d.n ∧ d.n ≤ 4096
  hu : w.ownsRow 0 137 193 uv d.uw.length (wcs d.uw)
  huw : Good d.n d.uw
  ho : w.ownsRow 0 158 2 ov d.ops.length (ocs d.ops)
  neP : D ≠ P
  neU : uv.ownBlock ≠ some D ∧ uv.ownBlock ≠ some P
  neO : ov.ownBlock ≠ some D ∧ ov.ownBlock ≠ some P
  neUO : uv.ownBlock = none ∨ uv.ownBlock ≠ ov.ownBlock
/-- Nothing has turned but blocks of fp. -/
structure Turned (fp : Nat → Prop) (w w' : World) : Prop where
  os : w'.os = w.os
  tape : w'.tape = w.tape
  output : w'.output = w.output
  size : w.heap.size ≤ w'.heap.size
  block : ∀ k, k < w.heap.size → ¬ fp k → w'.heap[k]? = w.heap[k]?
/-- A disk d whose blocks are among those of fp. -/
def Is (w : World) (D : Nat) (fp : Nat → Prop) (d : Dk) : Prop := ∃ P uv ov, At w D P uv ov d ∧ ∀ k, foot D P uv ov k → fp k
/-- What a call leaves: a disk d', nothing but its blocks turned, no block of another's taken. -/
def Nx (D : Nat) (fp : Nat → Prop) (w w' : World) (d' : Dk) : Prop := ∃ fp', Is w' D fp' d' ∧ Turned fp w w' ∧ ∀ k, fp' k → fp k ∨ w.heap.size ≤ k

theorem Turned.refl (fp : Nat → Prop) (w : World) : Turned fp w w := ⟨rfl, rfl, rfl, Nat.le_refl _, fun _ _ _ => rfl⟩
theorem Turned.trans {fp fp' : Nat → Prop} {a b c : World} (h : Turned fp a b) (k : Turned fp' b c) (hs : ∀ k, fp' k → fp k ∨ a.heap.size ≤ k) : Turned fp a c :=
  ⟨k.os.trans h.os, k.tape.trans h.tape, k.output.trans h.output, Nat.le_trans h.size k.size, fun i hi hn =>
    (k.block i (Nat.lt_of_lt_of_le hi h.size) (fun hf => (hs i hf).elim hn (fun hle => by omega))).trans (h.block i hi hn)⟩
theorem Turned.of_below {fp : Nat → Prop} {w w' : World} (h : Below w.heap.size w w') : Turned fp w w' := ⟨h.os, h.tape, h.output, h.size, fun k hk _ => h.block k hk⟩
theorem Turned.below {fp : Nat → Prop} {w w' : World} {B : Nat} (h : Turned fp w w') (hB : B ≤ w.heap.size) (hf : ∀ k, fp k → B ≤ k) : Below B w w' :=
  ⟨h.os, h.tape, h.output, h.size, fun k hk => h.block k (by omega) (fun hfk => by have := hf k hfk; omega)⟩
theorem Turned.cell {fp : Nat → Prop} {w w' : World} (h : Turned fp w w') {a : Addr} {v : Value} (hc : w.cell? a = some v) (hn : ¬ fp a.block) : w'.cell? a = some v :=
  (World.cell?_of_block (h.block a.block (World.block_lt_of_cell? w a hc) hn)).trans hc

theorem own_same {w w' : World} {base n : Nat} {e : TypeId} {sz : Nat} {v : Value} {xs : List Value} (h : w.ownsRow base e sz v n xs) (hs : ∀ k, v.ownBlock = some k → w'.heap[k]? = w.heap[k]?) : w'.ownsRow base e sz v n xs := by
  refine ⟨h.1, ?_⟩
  rcases h.2 with hn | ⟨g, cap, cur, rfl, hb, hgg, rest⟩
  · exact .inl hn
  · exact .inr ⟨g, cap, cur, rfl, hb, by rw [hs g rfl]; exact hgg, rest⟩
theorem At.lt {w : World} {D P : Nat} {uv ov : Value} {d : Dk} (h : At w D P uv ov d) : ∀ k, foot D P uv ov k → k < w.heap.size := by
  rintro k (rfl | rfl | hk | hk)
  · exact (Array.getElem?_eq_some_iff.1 h.hd).1
  · obtain ⟨cs, h1, _⟩ := h.hp
    exact (Array.getElem?_eq_some_iff.1 h1).1
  · exact (h.hu.lt k hk).2
  · exact (h.ho.lt k hk).2
/-- A disk is as it was where none of its blocks has turned. -/
theorem At.same {w w' : World} {D P : Nat} {uv ov : Value} {d : Dk} (h : At w D P uv ov d) (hs : ∀ k, foot D P uv ov k → w'.heap[k]? = w.heap[k]?) : At w' D P uv ov d := by
  obtain ⟨cs, h1, h2⟩ := h.hp
  exact ⟨by rw [hs D (.inl rfl)]; exact h.hd, ⟨cs, by rw [hs P (.inr (.inl rfl))]; exact h1, h2⟩, h.hpl, h.hn, own_same h.hu (fun k hk => hs k (.inr (.inr (.inl hk)))), h.huw, own_same h.ho (fun k hk => hs k (.inr (.inr (.inr hk)))), h.neP, h.neU, h.neO, h.neUO⟩
theorem At.below {w w' : World} {D P : Nat} {uv ov : Value} {d : Dk} (h : At w D P uv ov d) (hb : Below w.heap.size w w') : At w' D P uv ov d := h.same (fun k hk => hb.block k (h.lt k hk))
theorem Is.below {w w' : World} {D : Nat} {fp : Nat → Prop} {d : Dk} (h : Is w D fp d) (hb : Below w.heap.size w w') : Is w' D fp d := by
  obtain ⟨P, uv, ov, h1, h2⟩ := h
  exact ⟨P, uv, ov, h1.below hb, h2⟩
theorem Is.same {w w' : World} {D : Nat} {fp : Nat → Prop} {d : Dk} (h : Is w D fp d) (hs : ∀ k, fp k → k < w.heap.size → w'.heap[k]? = w.heap[k]?) : Is w' D fp d := by
  obtain ⟨P, uv, ov, h1, h2⟩ := h
  exact ⟨P, uv, ov, h1.same (fun k hk => hs k (h2 k hk) (h1.lt k hk)), h2⟩
/-- A disk whose footprint is cut to its own blocks. -/
theorem Is.cut {w : World} {D : Nat} {fp : Nat → Prop} {d : Dk} (h : Is w D fp d) : Is w D (fun k => fp k ∧ k < w.heap.size) d := by
  obtain ⟨P, uv, ov, h1, h2⟩ := h
  exact ⟨P, uv, ov, h1, fun k hk => ⟨h2 k hk, h1.lt k hk⟩⟩
theorem Nx.same {D : Nat} {fp : Nat → Prop} {w : World} {d : Dk} (h : Is w D fp d) : Nx D fp w w d := ⟨fp, h, Turned.refl _ _, fun _ hk => .inl hk⟩
theorem Nx.trans {D : Nat} {fp fp' : Nat → Prop} {a b c : World} {d' d'' : Dk} (t : Turned fp a b) (s : ∀ k, fp' k → fp k ∨ a.heap.size ≤ k) (h : Nx D fp' b c d'') : Nx D fp a c d'' := by
  obtain ⟨fp2, i2, t2, s2⟩ := h
  refine ⟨fp2, i2, t.trans t2 s, fun k hk => ?_⟩
  rcases s2 k hk with h1 | h1
  · exact s k h1
  · exact .inr (Nat.le_trans t.size h1)
theorem Nx.below {D : Nat} {fp : Nat → Prop} {a b c : World} {d : Dk} (h : Nx D fp a b d) (hb : Below b.heap.size b c) : Nx D fp a c d := by
  obtain ⟨fp1, i1, t1, s1⟩ := h
  exact ⟨fp1, i1.below hb, ⟨hb.os.trans t1.os, hb.tape.trans t1.tape, hb.output.trans t1.output, Nat.le_trans t1.size hb.size, fun k hk hn => (hb.block k (Nat.lt_of_lt_of_le hk t1.size)).trans (t1.block k hk hn)⟩, s1⟩
theorem ownB_none {w : World} {base n : Nat} {e : TypeId} {sz : Nat} {v : Value} {xs : List Value} (h : w.ownsRow base e sz v n xs) : v.ownBlock = none → v = .slice none 0 0 := by
  intro hv
  rcases h.2 with ⟨rfl, _⟩ | ⟨g, cap, cur, rfl, _⟩
  · rfl
  · simp [Value.ownBlock] at hv

/-- An operation whose value and world are known. -/
theorem wpList_run {ops : Array Oper} {rest : List Oper} {o : Oper} {a : Act} {w : World} {Q : Exit → Act → World → Prop} (hg : o.guard = none) (v : Value) (w' : World) (hr : (execOp a.eval o).run Tryz.prog w = .ok (.value v) w') (h : wpList Tryz.prog ops Q rest (a.put o.dst v) w') : wpList Tryz.prog ops Q (o :: rest) a w :=
  wpList_plain hg fun _ hK => by unfold Oper.wp; rw [hr]; exact hK _ _ h
theorem exec_alloc {o : Oper} {ρ : Operand → Value} {w : World} (t : TypeId) (ho : o.op = .alloc t) (Z : Array Value) (hz : (Tryz.prog.info? t).map (·.zero) = some (some (.agg Z))) :
    (execOp ρ o).run Tryz.prog w = .ok (.value (.pointer (some ⟨w.heap.size, 0, none⟩))) (w.alloc (.cells Z t)) := by
  cases hq : Tryz.prog.info? t with
  | none => simp [hq] at hz
  | some i =>
    have hs : i.zero = some (.agg Z) := by simpa [hq] using hz
    unfold execOp
    simp [ho, Instr.alloc, zeroValue, typeInfo, hq, hs, newVar, newRow, Value.cells, Sem.run_bind]
theorem zero79 : (Tryz.prog.info? 135).map (·.zero) = some (some (.agg (u8s (z192)))) := by kernel_rfl
theorem zero84 : (Tryz.prog.info? 137).map (·.zero) = some (some (.agg (wc (0, z192)).toArray)) := by kernel_rfl
theorem info79 : (Tryz.prog.info? 135).map (·.size) = some 192 := by kernel_rfl
theorem info84 : (Tryz.prog.info? 137).map (·.size) = some 193 := by kernel_rfl
/-- Appending to a row of one's own leaves it in its block, or in a new one. -/
theorem run_app {P : Program} (w : World) (t ty e : TypeId) (i : TypeInfo) (z : Value) (size bytes : Nat) (ht : P.underlying t = some (.slice e)) (hi : P.info? e = some i) (hz : i.zero = some z)
    (hsize : i.size = size) (hby : i.bytes = bytes) (hzs : z.cells.size = size) (hsz : 0 < size) (v : Value) (n : Nat) (xs : List Value) (hown : w.ownsRow 0 e size v n xs)
    (a : Addr) (m c : Nat) (news : List Value) (hl : news.length = m * size) (hnews : ∀ j u, news[j]? = some u → w.cell? (a.add j) = some u) (h1 : ∀ u ∈ news, u.oneCell' = true)
    (h63 : n + m ≤ maxLen) (hbytes : (n + m) * bytes ≤ 140737488355328) :
    ∃ v' w', (Builtin.append_ #[t, t] ty #[v, .slice (some a) m c]).run P w = .ok v' w' ∧ w'.ownsRow 0 e size v' (n + m) (xs ++ news) ∧ w.grownBy w' v.ownBlock ∧ ∀ k, v'.ownBlock = some k → v.ownBlock = some k ∨ w.heap.size ≤ k := by
  obtain ⟨v', w', hr, h2, h3, h4⟩ := run_append_own (P := P) w 0 t ty e i z size bytes ht hi hz hsize hby hzs hsz v n xs hown a m c news hl hnews h1 h63 hbytes (Nat.zero_le _)
  refine ⟨v', w', hr, h2, h3, ?_⟩
  rcases hown.2 with ⟨rfl, rfl⟩ | ⟨g, cap, cur, rfl, hbg, hg, hnc, hcm, hcs, htake⟩
  · have hx : xs = [] := List.eq_nil_of_length_eq_zero (by simpa using hown.1)
    subst hx
    obtain ⟨v2, w2, hr2, h22, _⟩ := run_append_own (P := P) w w.heap.size t ty e i z size bytes ht hi hz hsize hby hzs hsz _ 0 [] (World.ownsRow_nil w w.heap.size e size) a m c news hl hnews h1 h63 hbytes (Nat.le_refl _)
    rw [hr] at hr2
    simp only [Result.ok.injEq] at hr2
    obtain ⟨rfl, rfl⟩ := hr2
    exact fun k hk => .inr (h22.lt k hk).1
  · subst hsize
    subst hby
    by_cases hroom : n + m ≤ cap
    · have hfit : n * i.size + news.length ≤ cur.size := by rw [hl, hcs, ← Nat.add_mul]; exact Nat.mul_le_mul_right _ hroom
      have hr2 := run_append_room (P := P) w t ty e i ht hi g n cap cur hg a m c news hl hnews h1 hroom hfit
      rw [hr] at hr2
      simp only [Result.ok.injEq] at hr2
      obtain ⟨rfl, rfl⟩ := hr2
      exact fun k hk => .inl hk
    · have hsmall : n + m ≤ 9223372036854775807 := by simp only [maxLen] at h63; omega
      have holds : ∀ j u, xs[j]? = some u → w.cell? ((⟨g, 0, none⟩ : Addr).add j) = some u := hown.cells (g := g) rfl
      have hr2 := run_append_grow (P := P) w t ty e i z ht hi hz ⟨g, 0, none⟩ n cap xs hown.1 holds a m c news hl hnews (by omega) (by omega) (growslice_fits (by omega) hbytes)
      rw [hr] at hr2
      simp only [Result.ok.injEq] at hr2
      obtain ⟨rfl, rfl⟩ := hr2
      exact fun k hk => .inr (by simp [Value.ownBlock] at hk; omega)
theorem wp_app {P : Program} {o : Oper} {act : Act} {w : World} {K : Act → World → Prop} {Q : Exit → Act → World → Prop} (s x : Operand) (t : TypeId) (ho : o.op = .call { callee := .builtin .append, args := #[s, x], argTypes := #[t, t] })
    (e : TypeId) (size bytes : Nat) (z : Value) (ht : P.underlying t = some (.slice e)) (hi : (P.info? e).map (fun i => (i.zero, i.size, i.bytes)) = some (some z, size, bytes)) (hzs : z.cells.size = size) (hsz : 0 < size) (v : Value) (n : Nat) (xs : List Value) (hs : act.eval s = v) (hown : w.ownsRow 0 e size v n xs)
    (a : Addr) (m c : Nat) (news : List Value) (hx : act.eval x = .slice (some a) m c) (hl : news.length = m * size) (hnews : ∀ j u, news[j]? = some u → w.cell? (a.add j) = some u) (h1 : ∀ u ∈ news, u.oneCell' = true)
    (hbytes : (n + m) * bytes ≤ 140737488355328) (hb : 0 < bytes)
    (h : ∀ v' w', w'.ownsRow 0 e size v' (n + m) (xs ++ news) → w.grownBy w' v.ownBlock → (∀ k, v'.ownBlock = some k → v.ownBlock = some k ∨ w.heap.size ≤ k) → K (act.put o.dst v') w') : o.wp P act w K Q := by
  obtain ⟨i, hi, hz, hsize, hby⟩ := info_parts hi
  have h63 : n + m ≤ maxLen := by
    have : (n + m) * 1 ≤ (n + m) * bytes := Nat.mul_le_mul_left _ hb
    unfold maxLen
    omega
  obtain ⟨v', w', hr, h2, h3, h4⟩ := run_app (P := P) w t o.type e i z size bytes ht hi hz hsize hby hzs hsz v n xs hown a m c news hl hnews h1 h63 hbytes
  unfold Oper.wp execOp
  simp only [ho, resolve, invoke, builtin, Sem.run_bind, Sem.run_pure, Result.andThen_ok, List.map_toArray, List.map_cons, List.map_nil, hs, hx, hr]
  exact h v' w' h2 h3 h4
theorem wpList_app2 {P : Program} {ops : Array Oper} {rest : List Oper} {o : Oper} {act : Act} {w : World} {Q : Exit → Act → World → Prop} (hgd : o.guard = none) (s x : Operand) (t : TypeId) (ho : o.op = .call { callee := .builtin .append, args := #[s, x], argTypes := #[t, t] })
    (e : TypeId) (size bytes : Nat) (z : Value) (ht : P.underlying t = some (.slice e)) (hi : (P.info? e).map (fun i => (i.zero, i.size, i.bytes)) = some (some z, size, bytes)) (hzs : z.cells.size = size) (hsz : 0 < size) (v : Value) (n : Nat) (xs : List Value) (hs : act.eval s = v) (hown : w.ownsRow 0 e size v n xs)
    (a : Addr) (m c : Nat) (news : List Value) (hx : act.eval x = .slice (some a) m c) (hl : news.length = m * size) (hnews : ∀ j u, news[j]? = some u → w.cell? (a.add j) = some u) (h1 : ∀ u ∈ news, u.oneCell' = true)
    (hbytes : (n + m) * bytes ≤ 140737488355328) (hb : 0 < bytes)
    (h : ∀ v' w', w'.ownsRow 0 e size v' (n + m) (xs ++ news) → w.grownBy w' v.ownBlock → (∀ k, v'.ownBlock = some k → v.ownBlock = some k ∨ w.heap.size ≤ k) → wpList P ops Q rest (act.put o.dst v') w') : wpList P ops Q (o :: rest) act w :=
  wpList_plain hgd fun _ hK => wp_app s x t ho e size bytes z ht hi hzs hsz v n xs hs hown a m c news hx hl hnews h1 hbytes hb fun v' w' h2 h3 h4 => hK _ _ (h v' w' h2 h3 h4)
end Go.Proofs.YtnicgmimhgbcfaaGreatDoor.Disk
namespace Go.Proofs.YtnicgmimhgbcfaaGreatDoor.Disk.Plain
end Go.Proofs.YtnicgmimhgbcfaaGreatDoor.Disk.Plain
namespace Go.Proofs.YtnicgmimhgbcfaaGreatDoor.Disk
set_option linter.unusedVariables false
open Go.RowKit Go.Proofs.YtnicgmimhgbcfaaGreatDoor.Plain Go.Proofs.YtnicgmimhgbcfaaGreatDoor.Disk.Plain

theorem At.cells {w : World} {D P : Nat} {uv ov : Value} {d : Dk} (h : At w D P uv ov d) :
    w.cell? ⟨D, 0, none⟩ = some (.slice (some ⟨P, 0, none⟩) d.n d.n) ∧ w.cell? ⟨D, 1, none⟩ = some uv ∧ w.cell? ⟨D, 2, none⟩ = some ov ∧
      w.cell? ⟨D, 3, none⟩ = some (.bool d.down) ∧ w.cell? ⟨D, 4, none⟩ = some (.bool d.st) ∧ w.cell? ⟨D, 5, none⟩ = some (.int .i64 d.left) ∧ ∀ k, w.frozen? ⟨D, k, none⟩ = false := by
  refine ⟨?_, ?_, ?_, ?_, ?_, ?_, fun k => frozen_of_row w D k _ _ h.hd⟩ <;> (rw [cell_of_row _ _ _ _ _ _ h.hd]; rfl)

/-- The head alone has turned. -/
theorem At.put {w w' : World} {D P : Nat} {uv ov : Value} {d : Dk} (h : At w D P uv ov d) (b s : Bool) (l : Int) (hs : ∀ k, k ≠ D → w'.heap[k]? = w.heap[k]?)
    (hd : w'.heap[D]? = some (.cells #[.slice (some ⟨P, 0, none⟩) d.n d.n, uv, ov, .bool b, .bool s, .int .i64 l] 95 (0, 0))) : At w' D P uv ov { d with down := b, st := s, left := l } := by
  obtain ⟨cs, h1, h2⟩ := h.hp
  exact ⟨hd, ⟨cs, by rw [hs P (Ne.symm h.neP)]; exact h1, h2⟩, h.hpl, h.hn, own_same h.hu (fun k hk => hs k (fun e => h.neU.1 (by rw [hk, e]))), h.huw, own_same h.ho (fun k hk => hs k (fun e => h.neO.1 (by rw [hk, e]))), h.neP, h.neU, h.neO, h.neUO⟩
theorem turned_set {fp : Nat → Prop} {w0 w : World} {D k : Nat} (h : Turned fp w0 w) (hf : fp D) (v : Value) : Turned fp w0 (w.setCell ⟨D, k, none⟩ v) :=
  ⟨h.os, h.tape, h.output, by simpa using h.size, fun j hj hn => by
    rw [heap_setCell_other w ⟨D, k, none⟩ j _ (fun e => hn (by have e' : D = j := e.symm; rw [← e']; exact hf))]
    exact h.block j hj hn⟩
theorem ne_blk {x : Value} {k D : Nat} (h : x.ownBlock ≠ some D) (hk : x.ownBlock = some k) : k ≠ D := fun e => h (by rw [hk, e])
/-- An operation more. -/
theorem At.noted {w w1 w2 : World} {D P : Nat} {uv ov v' : Value} {d : Dk} (h : At w D P uv ov d) (x : Int × Int) (hb : Below w.heap.size w w1) (ho : w2.ownsRow 0 158 2 v' (d.ops.length + 1) (ocs d.ops ++ oc x)) (hg : w1.grownBy w2 ov.ownBlock)
    (hv : ∀ k, v'.ownBlock = some k → ov.ownBlock = some k ∨ w1.heap.size ≤ k) (hh : w2.heap[D]? = w.heap[D]?) :
    At (w2.setCell ⟨D, 2, none⟩ v') D P uv v' { d with ops := d.ops ++ [x] } ∧ Turned (foot D P uv ov) w (w2.setCell ⟨D, 2, none⟩ v') ∧ ∀ k, foot D P uv v' k → foot D P uv ov k ∨ w.heap.size ≤ k := by
  obtain ⟨cs, h1, h2⟩ := h.hp
  have hlt := h.lt
  have hle := hb.size
  have hv' : ∀ k, v'.ownBlock = some k → ov.ownBlock = some k ∨ w.heap.size ≤ k := fun k hk => (hv k hk).imp id (fun h => by omega)
  have same : ∀ k, k < w.heap.size → k ≠ D → ov.ownBlock ≠ some k → (w2.setCell ⟨D, 2, none⟩ v').heap[k]? = w.heap[k]? := fun k hk hne hno => by
    rw [heap_setCell_other w2 ⟨D, 2, none⟩ k _ hne, hg.block k (by omega) (Ne.symm hno), hb.block k hk]
  have hD : (w2.setCell ⟨D, 2, none⟩ v').heap[D]? = _ := heap_setCell_same w2 D 2 _ _ v' (hh.trans h.hd)
  have nD : v'.ownBlock ≠ some D := fun e => (hv' D e).elim h.neO.1 (fun hl => by have := hlt D (.inl rfl); omega)
  have nP : v'.ownBlock ≠ some P := fun e => (hv' P e).elim h.neO.2 (fun hl => by have := hlt P (.inr (.inl rfl)); omega)
  refine ⟨⟨hD, ⟨cs, ?_, h2⟩, h.hpl, h.hn, own_same h.hu (fun k hk => ?_), h.huw, ?_, h.neP, h.neU, ⟨nD, nP⟩, ?_⟩, ⟨?_, ?_, ?_, ?_, fun k hk hn => ?_⟩, ?_⟩
  · rw [same P (hlt P (.inr (.inl rfl))) (Ne.symm h.neP) h.neO.2]; exact h1
  · refine same k (hlt k (.inr (.inr (.inl hk)))) (ne_blk h.neU.1 hk) (fun e => ?_)
    rcases h.neUO with hn | hn
    · rw [hn] at hk; cases hk
    · exact hn (by rw [hk, e])
  · rw [ocs_snoc, List.length_append, List.length_singleton]
    exact own_same ho (fun k hk => heap_setCell_other w2 ⟨D, 2, none⟩ k _ (ne_blk nD hk))
  · cases hu : uv.ownBlock with
    | none => exact .inl rfl
    | some u =>
      refine .inr (fun e => ?_)
      rcases hv' u e.symm with h5 | h5
      · rcases h.neUO with hn | hn
        · rw [hn] at hu; cases hu
        · exact hn (by rw [hu, h5])
      · have := hlt u (.inr (.inr (.inl hu))); omega
  · exact hg.os.trans hb.os
  · exact hg.tape.trans hb.tape
  · exact hg.output.trans hb.output
  · have := hg.size; simp; omega
  · exact same k hk (fun e => hn (.inl e)) (fun e => hn (.inr (.inr (.inr e))))
  · rintro k (rfl | rfl | hk | hk)
    · exact .inl (.inl rfl)
    · exact .inl (.inr (.inl rfl))
    · exact .inl (.inr (.inr (.inl hk)))
    · exact (hv' k hk).imp (fun h => .inr (.inr (.inr h))) id

/-- Why nothing may be asked of a disk now. -/
def rdy (d : Dk) : Int := if d.down then 13 else 0
theorem ready_any (w : World) (D P : Nat) (uv ov : Value) (d : Dk) (h : At w D P uv ov d) :
    Calls Tryz.prog 54 #[.pointer (some ⟨D, 0, none⟩)] w fun e w' => e = .returned (.int .i64 (rdy d)) ∧ w = w' := by
  obtain ⟨-, -, -, c3, -, -, -⟩ := h.cells
  have E : Box (rdy d = if d.down then 13 else 0) := ⟨rfl⟩
  clear h
  go_enter Tryz.func54, Tryz.ntmps54
  go_wp2
  · rename_i hb
    go_ret
    exact ⟨by rw [E.out, hb]; rfl, rfl⟩
  · rename_i hb
    go_ret
    exact ⟨by rw [E.out, hb]; rfl, rfl⟩
theorem ready_none (w : World) : Calls Tryz.prog 54 #[.pointer none] w fun e w' => e = .returned (.int .i64 1) ∧ w = w' := by
  go_enter Tryz.func54, Tryz.ntmps54
  go_wp2
  go_ret
  exact ⟨rfl, rfl⟩
/-- Whether there is such a place. -/
def hsp (d : Dk) (i : Int) : Bool := decide (0 ≤ i ∧ i < (d.n : Int))
set_option maxHeartbeats 1000000 in
theorem has_any (w : World) (D P : Nat) (uv ov : Value) (d : Dk) (h : At w D P uv ov d) (i : Int) :
    Calls Tryz.prog 79 #[.pointer (some ⟨D, 0, none⟩), .int .i64 i] w fun e w' => e = .returned (.bool (hsp d i)) ∧ w = w' := by
  obtain ⟨c0, -, -, -, -, -, -⟩ := h.cells
  have E : Box (hsp d i = decide (0 ≤ i ∧ i < (d.n : Int))) := ⟨rfl⟩
  clear h
  go_enter Tryz.func79, Tryz.ntmps79
  by_cases h0 : 0 ≤ i
  · go_wp2
    go_ret
    exact ⟨by rw [E.out]; simp [h0], rfl⟩
  · have h0' : decide (0 ≤ i) = false := by simpa using h0
    go_wp2
    go_ret
    exact ⟨by rw [E.out]; symm; simp; omega, rfl⟩
/-- Why bytes can't be laid at a place. -/
def fit (d : Dk) (i : Int) (len : Nat) : Int := if hsp d i then (if len = 192 then 0 else 1) else 12
set_option maxHeartbeats 1000000 in
theorem fits_any (w : World) (D P : Nat) (uv ov : Value) (d : Dk) (h : At w D P uv ov d) (i : Int) (a : Option Addr) (len cap : Nat) :
    Calls Tryz.prog 57 #[.pointer (some ⟨D, 0, none⟩), .int .i64 i, .slice a len cap] w fun e w' => e = .returned (.int .i64 (fit d i len)) ∧ w = w' := by
  have E : Box (fit d i len = if hsp d i then (if len = 192 then 0 else 1) else 12) := ⟨rfl⟩
  have H := has_any w D P uv ov d h i
  generalize hsp d i = b at H E
  have HB : Box (Calls Tryz.prog 79 #[.pointer (some ⟨D, 0, none⟩), .int .i64 i] w fun e w' => e = .returned (.bool b) ∧ w = w') := ⟨H⟩
  clear h H
  go_enter Tryz.func57, Tryz.ntmps57
  cases b
  · go_wp2_with (go_at_call 79; refine HB.out.mono ?_; rintro e w' ⟨rfl, rfl⟩)
    go_ret
    exact ⟨by rw [E.out]; rfl, rfl⟩
  · by_cases hl : len = 192
    · subst hl
      go_wp2_with (go_at_call 79; refine HB.out.mono ?_; rintro e w' ⟨rfl, rfl⟩)
      go_ret
      exact ⟨by rw [E.out]; rfl, rfl⟩
    · have hl' : ((len : Int) == 192) = false := by simp; omega
      go_wp2_with (go_at_call 79; refine HB.out.mono ?_; rintro e w' ⟨rfl, rfl⟩)
      go_ret
      exact ⟨by rw [E.out]; simp [hl], rfl⟩
theorem size_any (w : World) (D P : Nat) (uv ov : Value) (d : Dk) (h : At w D P uv ov d) :
    Calls Tryz.prog 32 #[.pointer (some ⟨D, 0, none⟩)] w fun e w' => e = .returned (.int .i64 (d.n : Int)) ∧ w = w' := by
  obtain ⟨c0, -, -, -, -, -, -⟩ := h.cells
  clear h
  go_enter Tryz.func32, Tryz.ntmps32
  go_wp2
  go_ret
  exact ⟨rfl, rfl⟩
theorem own_form2 {w : World} {base n : Nat} {e : TypeId} {sz : Nat} {v : Value} {xs : List Value} (h : w.ownsRow base e sz v n xs) : ∃ a cap, v = .slice a n cap := by
  rcases h.2 with ⟨rfl, rfl⟩ | ⟨g, cap, cur, rfl, _⟩
  · exact ⟨_, _, rfl⟩
  · exact ⟨_, _, rfl⟩
theorem pending_any (w : World) (D P : Nat) (uv ov : Value) (d : Dk) (h : At w D P uv ov d) :
    Calls Tryz.prog 28 #[.pointer (some ⟨D, 0, none⟩)] w fun e w' => e = .returned (.int .i64 (d.uw.length : Int)) ∧ w = w' := by
  obtain ⟨-, c1, -, -, -, -, -⟩ := h.cells
  obtain ⟨a, cap, rfl⟩ := own_form2 h.hu
  clear h
  go_enter Tryz.func28, Tryz.ntmps28
  go_wp2
  go_ret
  exact ⟨rfl, rfl⟩
theorem info75 : (Tryz.prog.info? 158).map (fun i => (i.zero, i.size, i.bytes)) = some (some (.agg (oc (0, 0)).toArray), 2, 16) := by kernel_rfl
theorem news_new (w : World) (cs : List Value) (e : TypeId) : ∀ j u, cs[j]? = some u → (w.alloc (.cells cs.toArray e)).cell? ((⟨w.heap.size, 0, none⟩ : Addr).add j) = some u := by
  intro j u hj
  rw [Addr.add_lit, Nat.zero_add, cell_of_row _ _ _ _ _ _ (al_at rfl)]
  simpa using hj
theorem At.after {w w2 : World} {D P : Nat} {uv ov : Value} {d : Dk} (h : At w D P uv ov d) (o : Obj) (row : Option Nat) (hr : row ≠ some D) (hg : (w.alloc o).grownBy w2 row) : w2.heap[D]? = w.heap[D]? := by
  have hl := h.lt D (.inl rfl)
  rw [hg.block D (by simp; omega) (Ne.symm hr), Below.heap_alloc w o D hl]
set_option maxHeartbeats 1000000 in
theorem note_at (w : World) (D P : Nat) (uv ov : Value) (d : Dk) (h : At w D P uv ov d) (k i : Int) (hl : d.ops.length < 1000000000) :
    Calls Tryz.prog 55 #[.pointer (some ⟨D, 0, none⟩), .int .i64 k, .int .i64 i] w fun e w' =>
      e = .returned (.tuple #[]) ∧ ∃ ov', At w' D P uv ov' { d with ops := d.ops ++ [(k, i)] } ∧ Turned (foot D P uv ov) w w' ∧ ∀ k, foot D P uv ov' k → foot D P uv ov k ∨ w.heap.size ≤ k := by
  obtain ⟨-, -, c2, -, -, -, fz⟩ := h.cells
  have f2 := fz 2
  have HA : Box (At w D P uv ov d) := ⟨h⟩
  have HL : Box ((d.ops.length + 1) * 16 ≤ 140737488355328) := ⟨by omega⟩
  clear h fz hl
  go_enter Tryz.func55, Tryz.ntmps55
  go_wp2_with (at_builtin; refine wpList_app2 rfl _ _ 85 rfl 158 2 16 (.agg (oc (0, 0)).toArray) Tryz.underlying85 info75 rfl (by decide) ov d.ops.length (ocs d.ops) rfl (HA.out.ho.alloc _) ⟨w.heap.size, 0, none⟩ 1 1 (oc (k, i)) rfl rfl (news_new w (oc (k, i)) _) (one_oc _) HL.out (by decide) ?_; intro v' w2 hown hgr hblk; obtain ⟨a', cap', rfl⟩ := own_form2 hown; have HD := HA.out.after _ _ HA.out.neO.1 hgr; have c2' : w2.cell? ⟨D, 2, none⟩ = some ov := (World.cell?_of_block HD).trans c2; have f2' : w2.frozen? ⟨D, 2, none⟩ = false := (World.frozen?_of_block HD).trans f2; have HN : Box _ := ⟨HA.out.noted (k, i) ((Below.refl _ w).alloc (Nat.le_refl _) _) hown hgr hblk HD⟩; clear hown hgr hblk HD)
  go_end0
  exact ⟨rfl, _, HN.out⟩
theorem note_any (w : World) (D : Nat) (fp : Nat → Prop) (d : Dk) (h : Is w D fp d) (k i : Int) (hl : d.ops.length < 1000000000) :
    Calls Tryz.prog 55 #[.pointer (some ⟨D, 0, none⟩), .int .i64 k, .int .i64 i] w fun e w' => e = .returned (.tuple #[]) ∧ Nx D fp w w' { d with ops := d.ops ++ [(k, i)] } := by
  obtain ⟨P, uv, ov, h1, h2⟩ := h
  refine (note_at w D P uv ov d h1 k i hl).mono ?_
  rintro e w' ⟨rfl, ov', i1, t1, s1⟩
  exact ⟨rfl, foot D P uv ov', ⟨P, uv, ov', i1, fun _ hk => hk⟩, ⟨t1.os, t1.tape, t1.output, t1.size, fun k hk hn => t1.block k hk (fun hf => hn (h2 k hf))⟩, fun k hk => (s1 k hk).imp (h2 k) id⟩
theorem At.nx_put {w w' : World} {D P : Nat} {uv ov : Value} {d : Dk} {fp : Nat → Prop} (h : At w D P uv ov d) (h2 : ∀ k, foot D P uv ov k → fp k) (b s : Bool) (l : Int) (t : Turned fp w w') (hs : ∀ k, k ≠ D → w'.heap[k]? = w.heap[k]?)
    (hd : w'.heap[D]? = some (.cells #[.slice (some ⟨P, 0, none⟩) d.n d.n, uv, ov, .bool b, .bool s, .int .i64 l] 95 (0, 0))) : Nx D fp w w' { d with down := b, st := s, left := l } :=
  ⟨fp, ⟨P, uv, ov, h.put b s l hs hd, h2⟩, t, fun _ hk => .inl hk⟩
theorem At.set45 {w : World} {D P : Nat} {uv ov : Value} {d : Dk} {fp : Nat → Prop} (h : At w D P uv ov d) (h2 : ∀ k, foot D P uv ov k → fp k) (s : Bool) (l : Int) : Nx D fp w ((w.setCell ⟨D, 4, none⟩ (.bool s)).setCell ⟨D, 5, none⟩ (.int .i64 l)) { d with st := s, left := l } :=
  h.nx_put h2 d.down s l (turned_set (turned_set (Turned.refl _ _) (h2 D (.inl rfl)) _) (h2 D (.inl rfl)) _) (fun k hk => by rw [heap_setCell_other _ ⟨D, 5, none⟩ k _ hk, heap_setCell_other _ ⟨D, 4, none⟩ k _ hk])
    (heap_setCell_same _ D 5 _ _ _ (heap_setCell_same w D 4 _ _ _ h.hd))
theorem At.set3 {w : World} {D P : Nat} {uv ov : Value} {d : Dk} {fp : Nat → Prop} (h : At w D P uv ov d) (h2 : ∀ k, foot D P uv ov k → fp k) (b : Bool) : Nx D fp w (w.setCell ⟨D, 3, none⟩ (.bool b)) { d with down := b } :=
  h.nx_put h2 b d.st d.left (turned_set (Turned.refl _ _) (h2 D (.inl rfl)) _) (fun k hk => by rw [heap_setCell_other _ ⟨D, 3, none⟩ k _ hk]) (heap_setCell_same w D 3 _ _ _ h.hd)
theorem At.set5 {w : World} {D P : Nat} {uv ov : Value} {d : Dk} {fp : Nat → Prop} (h : At w D P uv ov d) (h2 : ∀ k, foot D P uv ov k → fp k) (l : Int) : Nx D fp w (w.setCell ⟨D, 5, none⟩ (.int .i64 l)) { d with left := l } :=
  h.nx_put h2 d.down d.st l (turned_set (Turned.refl _ _) (h2 D (.inl rfl)) _) (fun k hk => by rw [heap_setCell_other _ ⟨D, 5, none⟩ k _ hk]) (heap_setCell_same w D 5 _ _ _ h.hd)
theorem foot_head {D P : Nat} {uv ov : Value} : foot D P uv ov D := .inl rfl
set_option maxHeartbeats 1000000 in
theorem stop_any (w : World) (D : Nat) (fp : Nat → Prop) (d : Dk) (h : Is w D fp d) (i : Int) :
    Calls Tryz.prog 43 #[.pointer (some ⟨D, 0, none⟩), .int .i64 i] w fun e w' => e = .returned (.tuple #[]) ∧ Nx D fp w w' { d with st := decide (0 ≤ i), left := max i 0 } := by
  obtain ⟨P, uv, ov, h1, h2⟩ := h
  obtain ⟨-, -, -, -, c4, c5, fz⟩ := h1.cells
  have f4 := fz 4
  have f5 := fz 5
  have HA : Box (At w D P uv ov d) := ⟨h1⟩
  have HF : Box (fp D) := ⟨h2 D foot_head⟩
  have H2 : Box (∀ k, foot D P uv ov k → fp k) := ⟨h2⟩
  clear h1 h2 fz
  go_enter Tryz.func43, Tryz.ntmps43
  go_wp2
  · go_end0
    rw [show max i 0 = 0 by omega]
    exact ⟨rfl, HA.out.set45 H2.out _ _⟩
  · go_end0
    rw [show max i 0 = i by omega]
    exact ⟨rfl, HA.out.set45 H2.out _ _⟩
theorem stop_none (w : World) (i : Int) : Calls Tryz.prog 43 #[.pointer none, .int .i64 i] w fun e w' => e = .returned (.tuple #[]) ∧ w = w' := by
  go_enter Tryz.func43, Tryz.ntmps43
  go_wp2
  refine bodyPost_ret (results_none rfl _ _ _) rfl ?_
  exact ⟨rfl, rfl⟩
theorem size_none (w : World) : Calls Tryz.prog 32 #[.pointer none] w fun e w' => e = .returned (.int .i64 0) ∧ w = w' := by
  go_enter Tryz.func32, Tryz.ntmps32
  go_wp2
  go_ret
  exact ⟨rfl, rfl⟩
theorem pending_none (w : World) : Calls Tryz.prog 28 #[.pointer none] w fun e w' => e = .returned (.int .i64 0) ∧ w = w' := by
  go_enter Tryz.func28, Tryz.ntmps28
  go_wp2
  go_ret
  exact ⟨rfl, rfl⟩
end Go.Proofs.YtnicgmimhgbcfaaGreatDoor.Disk
namespace Go.Proofs.YtnicgmimhgbcfaaGreatDoor.Disk.Plain
end Go.Proofs.YtnicgmimhgbcfaaGreatDoor.Disk.Plain
namespace Go.Proofs.YtnicgmimhgbcfaaGreatDoor.Disk
set_option linter.unusedVariables false
open Go.RowKit Go.Proofs.YtnicgmimhgbcfaaGreatDoor.Plain Go.Proofs.YtnicgmimhgbcfaaGreatDoor.Disk.Plain

theorem exec_make {P : Program} {o : Oper} {ρ : Operand → Value} {w : World} (t e : TypeId) (l c : Operand) (ho : o.op = .makeSlice t l c) (z : Value) (size bytes : Nat) (ht : P.underlying t = some (.slice e)) (hi : (P.info? e).map (fun i => (i.zero, i.size, i.bytes)) = some (some z, size, bytes))
    (n : Nat) (hl : ρ l = .int .i64 (n : Int)) (hc : ρ c = .int .i64 (n : Int)) (hb : bytes * n ≤ 281474976710656) (h63 : n ≤ 9223372036854775807) :
    (execOp ρ o).run P w = .ok (.value (.slice (some ⟨w.heap.size, 0, none⟩) n n)) (w.alloc (.cells (madeCells z.cells (n * size)) e)) := by
  obtain ⟨i, hi1, hz, rfl, rfl⟩ := info_parts hi
  have hb' : (i.bytes : Int) * (n : Int) ≤ 281474976710656 := by
    have h : ((i.bytes * n : Nat) : Int) ≤ 281474976710656 := by omega
    rwa [Int.natCast_mul] at h
  have hr := run_make (P := P) w t e i z ht hi1 hz .i64 .i64 n n (by omega) (Int.le_refl _) hb' (by omega)
  unfold execOp
  simp only [ho, hl, hc, hr, Sem.run_bind, Sem.run_pure, Result.andThen_ok, Int.toNat_natCast]
theorem made_at (z : Array Value) (n i : Nat) (v : Value) (hi : i < n) (hz : 0 < z.size) (h : ∀ j, j < z.size → z[j]? = some v) : (madeCells z n)[i]? = some v := by
  have h1 : i % z.size < z.size := Nat.mod_lt _ hz
  have h2 := h _ h1
  rw [Array.getElem?_eq_getElem h1] at h2
  simp only [Option.some.injEq] at h2
  simp [madeCells, hi, h1, h2]
theorem size_made (z : Array Value) (n : Nat) : (madeCells z n).size = n := by simp [madeCells]
theorem zero_at (n j : Nat) (h : j < n) : (u8s (List.replicate n 0))[j]? = some (.int .u8 0) := by simp [u8s, h]
theorem made_pls (n : Nat) : Pls (madeCells (u8s (z192)) (n * 192)) n (fun _ => z192) := by
  refine ⟨by rw [size_made, Nat.mul_comm], fun i hi j hj => ?_⟩
  have e : z192.getD j 0 = 0 := getD_z192 j
  rw [e]
  refine made_at _ _ _ _ ?_ (by rw [size_u8s, length_z192]; omega) (fun j hj => zero_at 192 j (by rw [size_u8s, length_z192] at hj; exact hj))
  have : 192 * i + 192 ≤ 192 * n := by rw [← Nat.mul_succ]; exact Nat.mul_le_mul_left _ hi
  omega
theorem one_zero : ∀ j, j < (#[.int .u8 0] : Array Value).size → (#[.int .u8 0] : Array Value)[j]? = some (.int .u8 0) := by
  intro j hj
  have : j = 0 := by simp at hj; omega
  subst this
  rfl
theorem made_bytes (n : Nat) : madeCells #[.int .u8 0] n = u8s (List.replicate n 0) := by
  apply Array.ext
  · rw [size_made, size_u8s, List.length_replicate]
  · intro i h1 h2
    have hi : i < n := by rw [size_made] at h1; exact h1
    have a1 := made_at #[.int .u8 0] n i (.int .u8 0) hi (by decide) (one_zero)
    have a2 := zero_at n i hi
    rw [Array.getElem?_eq_getElem h1] at a1
    rw [Array.getElem?_eq_getElem h2] at a2
    simp only [Option.some.injEq] at a1 a2
    rw [a1, a2]
theorem info79b : (Tryz.prog.info? 135).map (fun i => (i.zero, i.size, i.bytes)) = some (some (.agg (u8s (z192))), 192, 192) := by kernel_rfl
/-- A new disk. -/
def dk0 (n : Nat) : Dk := ⟨n, fun _ => z192, [], [], false, false, 0⟩
theorem at_new (w : World) (n : Nat) (hn : 1 ≤ n ∧ n ≤ 4096) :
    At ((w.alloc (.cells (madeCells (u8s (z192)) (n * 192)) 135)).alloc (.cells #[.slice (some ⟨w.heap.size, 0, none⟩) n n, .slice none 0 0, .slice none 0 0, .bool false, .bool false, .int .i64 0] 95)) (w.heap.size + 1) w.heap.size (.slice none 0 0) (.slice none 0 0) (dk0 n) :=
  ⟨al_at (by simp), ⟨_, al_old (al_at rfl), made_pls n⟩, fun _ => ⟨length_z192, byt_z192⟩, hn, World.ownsRow_nil _ _ _ _, fun x hx => by simp [dk0] at hx, World.ownsRow_nil _ _ _ _, by omega, by simp [Value.ownBlock], by simp [Value.ownBlock], .inl rfl⟩
theorem made_foot (s : Nat) (k : Nat) (h : foot (s + 1) s (.slice none 0 0) (.slice none 0 0) k) : s ≤ k := by
  rcases h with rfl | rfl | h | h
  · omega
  · omega
  · simp [Value.ownBlock] at h
  · simp [Value.ownBlock] at h
set_option maxHeartbeats 1000000 in
theorem new_any (w : World) (n : Nat) (hn : 1 ≤ n ∧ n ≤ 4096) : Calls Tryz.prog 10 #[.int .i64 (n : Int)] w fun e w' => e = .returned (.tuple #[.pointer (some ⟨w.heap.size + 1, 0, none⟩), .int .i64 0]) ∧ Is w' (w.heap.size + 1) (fun k => w.heap.size ≤ k) (dk0 n) ∧ Below w.heap.size w w' := by
  have H : Box _ := ⟨at_new w n hn⟩
  have HX : Box (192 * n ≤ 281474976710656 ∧ n ≤ 9223372036854775807) := ⟨by omega, by omega⟩
  have h1 : decide ((n : Int) < 1) = false := by simp; omega
  have h2 : decide (4096 < (n : Int)) = false := by simp; omega
  clear hn
  go_enter Tryz.func10, Tryz.ntmps10
  go_wp2_with (refine wpList_run rfl _ _ (exec_make 92 135 _ _ rfl (.agg (u8s (z192))) 192 192 Tryz.underlying92 info79b n rfl rfl HX.out.1 HX.out.2) ?_)
  go_ret2
  exact ⟨rfl, ⟨_, _, _, H.out, made_foot _⟩, ((Below.refl _ w).alloc (Nat.le_refl _) _).alloc (by simp) _⟩
set_option maxHeartbeats 1000000 in
theorem new_no (w : World) (n : Int) (hn : n < 1 ∨ 4096 < n) : Calls Tryz.prog 10 #[.int .i64 n] w fun e w' => e = .returned (.tuple #[.pointer none, .int .i64 1]) ∧ w = w' := by
  by_cases h1 : n < 1
  · have h1 : decide (n < 1) = true := by simpa using h1
    clear hn
    go_enter Tryz.func10, Tryz.ntmps10
    go_wp2
    go_ret2
    exact ⟨rfl, rfl⟩
  · have h1 : decide (n < 1) = false := by simpa using h1
    have h2 : decide (4096 < n) = true := by simp at h1 ⊢; omega
    clear hn
    go_enter Tryz.func10, Tryz.ntmps10
    go_wp2
    go_ret2
    exact ⟨rfl, rfl⟩
end Go.Proofs.YtnicgmimhgbcfaaGreatDoor.Disk
namespace Go.Proofs.YtnicgmimhgbcfaaGreatDoor.Disk.Plain
end Go.Proofs.YtnicgmimhgbcfaaGreatDoor.Disk.Plain
namespace Go.Proofs.YtnicgmimhgbcfaaGreatDoor.Disk
set_option linter.unusedVariables false
open Go.RowKit Go.Shelf Go.Proofs.YtnicgmimhgbcfaaGreatDoor.Plain Go.Proofs.YtnicgmimhgbcfaaGreatDoor.Disk.Plain
attribute [local go_sem] Oper.semAt_some

/-- A write under way, with its number. -/
structure Wr where
  k : Nat
  p : Nat
  b : List Int
  hb : b.length = 192
def Wr.enc (x : Wr) : Array Value := #[.int .i64 (x.k : Int), .agg (wc (x.p, x.b)).toArray]
def Lens (L : List (Nat × List Int)) : Prop := ∀ x ∈ L, x.2.length = 192
def itm (L : List (Nat × List Int)) (hL : Lens L) (k : Nat) : Wr := if h : k < L.length then ⟨k, L[k].1, L[k].2, hL _ (List.getElem_mem h)⟩ else ⟨0, 0, z192, length_z192⟩
/-- What has come behind so many rounds. -/
def came (L : List (Nat × List Int)) (hL : Lens L) (j : Nat) : List Wr := (List.range j).map (fun t => itm L hL (L.length - 1 - t))
theorem came_succ (L : List (Nat × List Int)) (hL : Lens L) (j : Nat) : came L hL (j + 1) = came L hL j ++ [itm L hL (L.length - 1 - j)] := by simp [came, List.range_succ]
theorem came_length (L : List (Nat × List Int)) (hL : Lens L) (j : Nat) : (came L hL j).length = j := by simp [came]
/-- Writes in memory, where a slice says. -/
def Ways (n₀ : Nat) (W : World) (a : Option Addr) (L : List (Nat × List Int)) : Prop := 0 < L.length → ∃ b, a = some ⟨b, 0, none⟩ ∧ b < n₀ ∧ ∀ k (h : k < L.length), W.rangeAt b (k * 193) (wc L[k])
theorem Ways.below {n₀ : Nat} {A B : World} {a : Option Addr} {L : List (Nat × List Int)} (h : Ways n₀ A a L) (hb : Below n₀ A B) : Ways n₀ B a L := fun h0 => by
  obtain ⟨b, e, h1, h2⟩ := h h0
  exact ⟨b, e, h1, fun k hk j v hv => (hb.cell (p := ⟨b, k * 193 + j, none⟩) h1).trans (h2 k hk j v hv)⟩
theorem wpListIn_load2 {F : Fence} {n : Nat} {P : Program} {ops : Array Oper} {rest : List Oper} {op : Oper} {a : Act} {w : World} {Q : Exit → Act → World → Prop} (hgd : op.guard = none) (ty : TypeId) (x : Operand) (ho : op.op = .load ty x)
    (b o : Nat) (hx : a.eval x = .pointer (some ⟨b, o, none⟩)) (cs : List Value) (d : TypeDesc) (hc : w.rangeAt b o cs)
    (hu : P.underlying ty = some d) (hd : d.isRow = true) (hi : (P.info? ty).map (·.size) = some cs.length)
    (h : wpListIn F n P ops Q rest (a.put op.dst (.agg cs.toArray)) w) : wpListIn F n P ops Q (op :: rest) a w := by
  refine wpListIn_plain hgd fun K hK' => ?_
  unfold Oper.wpIn
  refine ⟨?_, ?_⟩
  · simp [Oper.about, ho]
  · rw [Oper.semAt_plain F _ _ (by rw [ho]; intro c hc'; cases hc')]
    unfold execOp
    simp only [ho, hx, Instr.loadAt, Instr.sureAddr, Sem.run_bind, Sem.run_pure, Result.andThen_ok, run_loadVar_mid w b o ty cs d hc hu hd hi]
    exact hK' _ _ h
set_option maxRecDepth 100000 in
set_option maxHeartbeats 2000000 in
theorem back1_in (F : Fence) (n : Nat) (h7 : F.fn 137) (hro : F.round = none) (hn : 1 ≤ n) (l Bs n₀ cap : Nat) (a : Option Addr) (L : List (Nat × List Int)) (hL : Lens L) (hreach : L.length < 1000000000) (J Jx : List Wr → World → Prop)
    (hY : ∀ pre x W, J pre W → pre.length < L.length → YieldAt F (n - 1) Tryz.prog l (Wr.enc x) W fun e W' =>
      (e = .returned (.bool true) ∧ J (pre ++ [x]) W' ∧ Below n₀ W W') ∨ (e = .returned (.bool false) ∧ Jx (pre ++ [x]) W'))
    (W : World) (hlt : Bs < n₀) (hBs : W.cell? ⟨Bs, 0, none⟩ = some (.slice a L.length cap)) (hc : Ways n₀ W a L) (h0 : J [] W) :
    CallsIn F n Tryz.prog 137 #[.func (.yield l) #[] #[], .pointer (some ⟨Bs, 0, none⟩)] W fun e W' => (∃ v, e = .returned v) ∧
      ((∃ ys, ys = came L hL L.length ∧ J ys W') ∨ (∃ pre, (∃ k, k ≤ L.length ∧ pre = came L hL k) ∧ Jx pre W')) := by
  refine callsIn_of_wp Tryz.func137 rfl h7 ?_ hro
  simp only [Tryz.ntmps137, List.size_toArray, List.length_cons, List.length_nil, Nat.reduceAdd, Nat.reduceSub, Array.replicate_succ, Array.replicate_zero, List.push_toArray, List.append_toArray, List.nil_append, List.cons_append]
  have hw1 : IntKind.i64.wrap ((L.length : Int) - 1) = (L.length : Int) - 1 := by rw [IntKind.wrap_i64]; omega
  gi_wp2
  gi_loopw [3] (fun i wr => ∃ k : Nat, k ≤ L.length ∧ i = .int .i64 ((L.length : Int) - 1 - k) ∧ J (came L hL k) wr ∧ Below n₀ W wr)
    (fun i _ => (intOf i + 1).toNat)
  case atStart => exact ⟨0, Nat.zero_le _, by simp, h0, Below.refl _ _⟩
  case round =>
    obtain ⟨k, hk, rfl, hJs, hnx⟩ := hrel
    have hBs' : wr.cell? ⟨Bs, 0, none⟩ = some (.slice a L.length cap) := (hnx.cell (p := ⟨Bs, 0, none⟩) hlt).trans hBs
    by_cases hlt2 : k < L.length
    · obtain ⟨b, rfl, hb, hr⟩ := hc.below hnx (by omega)
      obtain ⟨fn, tmps, assign, body, hy, hR⟩ := hY _ (itm L hL (L.length - 1 - k)) wr hJs (by rw [came_length]; exact hlt2)
      have hq : L.length - 1 - k < L.length := by omega
      have hr' := hr _ hq
      have he : itm L hL (L.length - 1 - k) = ⟨L.length - 1 - k, L[L.length - 1 - k].1, L[L.length - 1 - k].2, hL _ (List.getElem_mem hq)⟩ := by simp [itm, hq]
      rw [he] at hy
      simp only [Wr.enc] at hy
      have hlen : (wc L[L.length - 1 - k]).length = 193 := length_wc _ (hL _ (List.getElem_mem hq))
      rw [show ((L.length : Int) - 1 - k) = ((L.length - 1 - k : Nat) : Int) by omega]
      have hK : L.length - 1 - k = L.length - (k + 1) := by omega
      have HR : Box (∀ e W', (e = Ending.returned (.bool true) ∧ J (came L hL k ++ [itm L hL (L.length - 1 - k)]) W' ∧ Below n₀ wr W' ∨ e = Ending.returned (.bool false) ∧ Jx (came L hL k ++ [itm L hL (L.length - 1 - k)]) W') → (e = Ending.returned (.bool true) ∧ J (came L hL (k + 1)) W' ∧ Below n₀ W W') ∨ (e = Ending.returned (.bool false) ∧ Jx (came L hL (k + 1)) W')) := ⟨fun e W' h => by
        rw [came_succ]
        exact h.imp (fun h => ⟨h.1, h.2.1, hnx.trans h.2.2⟩) id⟩
      have hqe : Box (L.length - 1 - k + k + 1 = L.length) := ⟨by omega⟩
      have hr2 : Box (wr.rangeAt b ((L.length - 1 - k) * 193) (wc L[L.length - 1 - k])) := ⟨hr'⟩
      have hy2 : (Instr.yield l #[Value.int .i64 ((L.length - 1 - k : Nat) : Int), .agg (wc L[L.length - 1 - k]).toArray]).run Tryz.prog wr = .ok (.round l fn tmps assign body) wr := hy
      have hi : (Tryz.prog.info? 137).map (·.size) = some (wc L[L.length - 1 - k]).length := by rw [hlen]; exact info84
      have hR2 := hR.mono HR.out
      have hw2 : IntKind.i64.wrap (((L.length - 1 - k : Nat) : Int) - 1) = ((L.length - 1 - k : Nat) : Int) - 1 := by rw [IntKind.wrap_i64]; omega
      clear hr hr' hc hY hy hR HR he hlen hnx hJs hBs h0 hlt2 hK
      generalize L[L.length - 1 - k] = x at hy2 hr2 hi
      generalize L.length - 1 - k = q at *
      gi_wp2_with (refine wpListIn_load2 rfl 137 _ rfl b (q * 193) rfl (wc x) _ hr2.out Tryz.underlying137 rfl hi ?_)
      refine hR2.mono ?_
      rintro e W3 (⟨rfl, hJ3, hk3⟩ | ⟨rfl, hJx3⟩)
      · gi_wp2
        go_roundw
        case rel => exact ⟨k + 1, by have := hqe.out; omega, by have := hqe.out; congr 1; omega, hJ3, hk3⟩
        case measure => simp [intOf]
      · gi_wp2
        refine bodyPost_ret (results_none rfl _ _ _) rfl ?_
        exact ⟨⟨_, rfl⟩, .inr ⟨_, ⟨k + 1, by have := hqe.out; omega, rfl⟩, hJx3⟩⟩
    · obtain rfl : k = L.length := by omega
      have hneg : decide (0 ≤ (L.length : Int) - 1 - L.length) = false := by simp; omega
      gi_wp2
      go_end0
      exact ⟨⟨_, rfl⟩, .inl ⟨_, rfl, hJs⟩⟩
end Go.Proofs.YtnicgmimhgbcfaaGreatDoor.Disk
namespace Go.Proofs.YtnicgmimhgbcfaaGreatDoor.Disk.Plain
end Go.Proofs.YtnicgmimhgbcfaaGreatDoor.Disk.Plain
namespace Go.Proofs.YtnicgmimhgbcfaaGreatDoor.Disk
set_option linter.unusedVariables false
open Go.RowKit Go.Proofs.YtnicgmimhgbcfaaGreatDoor.Plain Go.Proofs.YtnicgmimhgbcfaaGreatDoor.Disk.Plain

theorem splice_cons {α : Type} (L r : List α) (v : α) (o : Nat) (h : o < L.length) : splice (L.set o v) (o + 1) r = splice L o (v :: r) := by
  unfold splice
  have e1 : (L.set o v).take (o + 1) = L.take o ++ [v] := by
    rw [List.take_add_one, List.take_set_of_le (Nat.le_refl _)]
    simp [h]
  have e2 : (L.set o v).drop (o + 1 + r.length) = L.drop (o + (v :: r).length) := by
    rw [List.drop_set_of_lt (by omega)]
    simp only [List.length_cons]
    congr 1
    omega
  rw [e1, e2]
  simp
theorem heap_setCells (b : Nat) (t : TypeId) : ∀ (vs : List Value) (o : Nat) (w : World) (cs : Array Value), w.heap[b]? = some (.cells cs t (0, 0)) → o + vs.length ≤ cs.size → (w.setCells b o vs).heap[b]? = some (.cells (splice cs.toList o vs).toArray t (0, 0))
  | [], o, w, cs, hg, hf => by
    rw [splice_nil]
    simpa [World.setCells] using hg
  | v :: r, o, w, cs, hg, hf => by
    rw [World.setCells]
    have h1 := heap_setCell_same w b o cs t v hg
    have hl : o < cs.size := by simp only [List.length_cons] at hf; omega
    rw [heap_setCells b t r (o + 1) _ _ h1 (by simp only [List.length_cons] at hf; simp; omega)]
    rw [Array.toList_setIfInBounds, splice_cons _ _ _ _ (by simpa using hl)]
theorem heap_setCells_other (b k : Nat) (hk : k ≠ b) : ∀ (vs : List Value) (o : Nat) (w : World), (w.setCells b o vs).heap[k]? = w.heap[k]?
  | [], o, w => rfl
  | v :: r, o, w => by
    rw [World.setCells, heap_setCells_other b k hk r (o + 1), heap_setCell_other w ⟨b, o, none⟩ k _ hk]
theorem size_setCells (b : Nat) : ∀ (vs : List Value) (o : Nat) (w : World), (w.setCells b o vs).heap.size = w.heap.size
  | [], o, w => rfl
  | v :: r, o, w => by
    rw [World.setCells, size_setCells b r (o + 1)]
    simp
theorem but_setCells (b : Nat) : ∀ (vs : List Value) (o : Nat) (w0 w : World), But b w0 w → But b w0 (w.setCells b o vs)
  | [], o, w0, w, h => h
  | v :: r, o, w0, w, h => by
    rw [World.setCells]
    exact but_setCells b r (o + 1) w0 _ (h.setCell o v)
theorem there_row {w : World} {g o n : Nat} {cs : Array Value} {t : TypeId} (hg : w.heap[g]? = some (.cells cs t (0, 0))) (h : o + n ≤ cs.size) : w.there g o n := by
  intro j hj
  refine ⟨?_, frozen_of_row w g _ cs t hg⟩
  rw [cell_of_row _ _ _ _ _ _ hg]
  have : o + j < cs.size := by omega
  simp [this]
theorem splice_all {α : Type} (L vs : List α) (h : L.length = vs.length) : splice L 0 vs = vs := by simp [splice, h]
theorem but_cell {G : Nat} {w w' : World} (h : But G w w') {a : Addr} {v : Value} (hc : w.cell? a = some v) (hn : a.block ≠ G) : w'.cell? a = some v :=
  (World.cell?_of_block (h.block a.block (World.block_lt_of_cell? w a hc) hn)).trans hc
theorem but_range {G : Nat} {w w' : World} (h : But G w w') {b o : Nat} {cs : List Value} (hc : w.rangeAt b o cs) (hn : b ≠ G) : w'.rangeAt b o cs := fun j v hv => but_cell h (hc j v hv) hn
theorem exec_load1 {P : Program} {o : Oper} {ρ : Operand → Value} {w' : World} (t : TypeId) (d : TypeDesc) (x : Operand) (ho : o.op = .load t x) (hu : P.underlying t = some d) (hd : d.isRow = false) (ad : Addr) (hx : ρ x = .pointer (some ad)) (v : Value) (hc : w'.cell? ad = some v) :
    (execOp ρ o).run P w' = .ok (.value v) w' := by
  have hagg : (isAgg t).run P w' = .ok false w' := by
    unfold isAgg
    rw [Sem.run_bind, run_underlying hu w']
    cases d <;> simp_all
  unfold execOp
  simp [ho, hx, Instr.loadAt, Instr.sureAddr, loadVar, Sem.run_bind, hagg, load, Sem.run, hc]
theorem exec_load_mid {P : Program} {o : Oper} {ρ : Operand → Value} {w' : World} (t : TypeId) (d : TypeDesc) (x : Operand) (ho : o.op = .load t x) (hu : P.underlying t = some d) (hd : d.isRow = true) (b off : Nat) (hx : ρ x = .pointer (some ⟨b, off, none⟩)) (cs : List Value) (hi : (P.info? t).map (·.size) = some cs.length) (hc : w'.rangeAt b off cs) :
    (execOp ρ o).run P w' = .ok (.value (.agg cs.toArray)) w' := by
  unfold execOp
  simp only [ho, hx, Instr.loadAt, Instr.sureAddr, Sem.run_bind, Sem.run_pure, Result.andThen_ok, run_loadVar_mid w' b off t cs d hc hu hd hi]
section
variable {P : Program} {md : Region.Mode} {ops : Array Oper} {Q : Exit → Act → World → Prop}
theorem begin_but (R : Nat) {id : Nat} {a : Act} {w : World} (hm : P.follows .mixedOrders = true) (h : ∀ wd, wd = w.drew → wpAnyH P .any ops Q (But R wd) ops.size (Array.replicate ops.size false) a wd) : (Code.region id ops true).wp P Q a w :=
  wp_region_held (S := But R w.drew) hm (h _ rfl)
theorem take_but {R : Nat} {i : Nat} {oi : Oper} {v : Value} {fuel : Nat} {listed : Array Bool} {a : Act} {w : World} (hi : ops[i]? = some oi)
    (hs : Region.noSelect ops = true) (hf : Region.free md ops listed i = true) (hr : (Region.ready md ops listed).contains i = true)
    (hQ : ∀ c a w, Q (.panic c) (a.put oi.dst v) w → Q (.panic c) a w) (hw : Region.wanted oi (yielded ops a.tmps) = true)
    (hv : ∀ w', But R w w' → (execOp a.eval oi).run P w' = .ok (.value v) w')
    (h : wpAnyH P md ops Q (But R w) fuel (listed.setIfInBounds i true) (a.put oi.dst v) w) : wpAnyH P md ops Q (But R w) (fuel + 1) listed a w :=
  wpAnyH_take hi hs hf hr hQ (Or.inl ⟨hw, hv⟩) (But.refl _ _) h
theorem last_but {R : Nat} {i : Nat} {o : Oper} {fuel : Nat} {listed : Array Bool} {a : Act} {w : World} (ho : ops[i]? = some o) (hr : Region.ready md ops listed = [i]) (hw : Region.wanted o (yielded ops a.tmps) = true) (hd : Region.ready md ops (listed.setIfInBounds i true) = [])
    (t : TypeId) (x y : Operand) (hop : o.op = .store t x y) (off : Nat) (cells : Array Value) (hx : a.eval x = .pointer (some ⟨R, off, none⟩)) (hy : a.eval y = .agg cells) (ht : w.there R off cells.size) (hi : (P.info? t).map (·.size) = some cells.size) (h1 : cells.all (·.oneCell') = true)
    (h : Q .normal (a.put o.dst undef) (w.setCells R off cells.toList)) : wpAnyH P md ops Q (But R w) (fuel + 1) listed a w := by
  refine wpAnyH_all hr (by simp) (fun j hj => ?_)
  simp only [List.mem_cons, List.not_mem_nil, or_false] at hj
  subst hj
  unfold wpOp
  simp only [ho, hw, if_true]
  exact .inl (wp_store_mid t x y hop R off cells hx hy ht hi h1 ⟨but_setCells _ _ _ _ _ (But.refl _ _), wpAnyH_done hd h _⟩)
end
end Go.Proofs.YtnicgmimhgbcfaaGreatDoor.Disk
namespace Go.Proofs.YtnicgmimhgbcfaaGreatDoor.Disk.Plain
end Go.Proofs.YtnicgmimhgbcfaaGreatDoor.Disk.Plain
namespace Go.Proofs.YtnicgmimhgbcfaaGreatDoor.Disk
set_option linter.unusedVariables false
open Go.RowKit Go.Shelf Go.Proofs.YtnicgmimhgbcfaaGreatDoor.Plain Go.Proofs.YtnicgmimhgbcfaaGreatDoor.Disk.Plain
attribute [local go_sem] Oper.semAt_some

/-- The bytes of the last write to a place. -/
def lastOf (L : List (Nat × List Int)) (i : Nat) : Option (List Int) := (L.reverse.find? (fun x => x.1 == i)).map (·.2)
/-- What a place would hold if all under way were done. -/
def lat (d : Dk) (i : Nat) : List Int := (lastOf d.uw i).getD (d.pl i)

set_option maxHeartbeats 1000000 in
theorem back_in (F : Fence) (n : Nat) (h5 : F.fn 115) (hro : F.round = none) (a : Option Addr) (len cap : Nat) (w : World) :
    CallsIn F n Tryz.prog 115 #[.slice a len cap] w fun e w' => e = .returned (.func (.func 137) #[] #[.pointer (some ⟨w.heap.size, 0, none⟩)]) ∧ w' = w.alloc (.cells #[.slice a len cap] 93) := by
  refine callsIn_of_wp Tryz.func115 rfl h5 ?_ hro
  simp only [Tryz.ntmps115, List.size_toArray, List.length_cons, List.length_nil, Nat.reduceAdd, Nat.reduceSub, Array.replicate_succ, Array.replicate_zero, List.push_toArray, List.append_toArray, List.nil_append, List.cons_append]
  gi_wp2
  go_ret
  exact ⟨rfl, rfl⟩
theorem back_stops (F : Fence) (n : Nat) (h7 : F.fn 137) (hro : F.round = none) (hn : 1 ≤ n) (Bs n₀ cap : Nat) (a : Option Addr) (L : List (Nat × List Int)) (hL : Lens L) (hreach : L.length < 1000000000) (w : World) (hBs : Bs < n₀) (hn₀ : n₀ ≤ w.heap.size)
    (hc : w.cell? ⟨Bs, 0, none⟩ = some (.slice a L.length cap)) (hI : Ways n₀ w a L) :
    SeqStopsK F n Tryz.prog 137 #[.pointer (some ⟨Bs, 0, none⟩)] Wr.enc (Below n₀) (fun ys => ys = came L hL L.length) (fun pre => ∃ k, k ≤ L.length ∧ pre = came L hL k) L.length w := fun l J Jx W hW _ _ hY h0 =>
  back1_in F n h7 hro hn l Bs n₀ cap a L hL hreach J Jx hY W hBs ((hW.cell (p := ⟨Bs, 0, none⟩) (show Bs < _ by omega)).trans hc) (hI.below (hW.mono hn₀)) h0
theorem At.ways {w : World} {D P : Nat} {a : Option Addr} {cap : Nat} {ov : Value} {d : Dk} (h : At w D P (.slice a d.uw.length cap) ov d) : Ways w.heap.size w a d.uw := by
  intro h0
  rcases h.hu.2 with ⟨h1, h2⟩ | ⟨g, cap', cur, h1, hb, hg, _⟩
  · omega
  · simp only [Value.slice.injEq, true_and] at h1
    obtain ⟨rfl, rfl⟩ := h1
    refine ⟨g, rfl, (Array.getElem?_eq_some_iff.1 hg).1, fun k hk j v hv => ?_⟩
    have hj : j < 193 := by
      have := (List.getElem?_eq_some_iff.1 hv).1
      rw [length_wc _ (h.huw _ (List.getElem_mem hk)).2.1] at this
      exact this
    have := h.hu.cells (g := g) rfl (193 * k + j) v (by
      rw [wcs, flat_at _ 193 h.huw.all k (by simpa using hk) j hj]
      simpa using hv)
    rw [Addr.add_lit, Nat.zero_add, Nat.mul_comm] at this
    exact this
theorem At.lens {w : World} {D P : Nat} {uv ov : Value} {d : Dk} (h : At w D P uv ov d) : Lens d.uw := fun x hx => (h.huw x hx).2.1
theorem wpListIn_zero {F : Fence} {n : Nat} {ops : Array Oper} {rest : List Oper} {op : Oper} {a : Act} {w : World} {Q : Exit → Act → World → Prop} (hgd : op.guard = none) (t : TypeId) (ho : op.op = .alloc t) (Z : Array Value) (hz : (Tryz.prog.info? t).map (·.zero) = some (some (.agg Z)))
    (h : wpListIn F n Tryz.prog ops Q rest (a.put op.dst (.pointer (some ⟨w.heap.size, 0, none⟩))) (w.alloc (.cells Z t))) : wpListIn F n Tryz.prog ops Q (op :: rest) a w := by
  refine wpListIn_plain hgd fun K hK' => ?_
  unfold Oper.wpIn
  refine ⟨?_, ?_⟩
  · simp [Oper.about, ho]
  · rw [Oper.semAt_plain F _ _ (by rw [ho]; intro c hc'; cases hc'), exec_alloc t ho Z hz]
    exact hK' _ _ h
theorem wpListIn_put {F : Fence} {n : Nat} {P : Program} {ops : Array Oper} {rest : List Oper} {op : Oper} {a : Act} {w : World} {Q : Exit → Act → World → Prop} (hgd : op.guard = none) (ty : TypeId) (x y : Operand) (ho : op.op = .store ty x y)
    (b o : Nat) (cells : Array Value) (hx : a.eval x = .pointer (some ⟨b, o, none⟩)) (hy : a.eval y = .agg cells) (ht : w.there b o cells.size) (hi : (P.info? ty).map (·.size) = some cells.size) (h1 : cells.all (·.oneCell') = true)
    (h : wpListIn F n P ops Q rest (a.put op.dst undef) (w.setCells b o cells.toList)) : wpListIn F n P ops Q (op :: rest) a w := by
  refine wpListIn_plain hgd fun K hK' => ?_
  unfold Oper.wpIn
  refine ⟨?_, ?_⟩
  · simp [Oper.about, ho]
  · rw [Oper.semAt_plain F _ _ (by rw [ho]; intro c hc'; cases hc')]
    unfold execOp
    simp only [ho, hx, hy, Instr.storeAt, Instr.sureAddr, Sem.run_bind, Sem.run_pure, Result.andThen_ok, run_storeVar_mid w b o ty cells ht hi h1]
    exact hK' _ _ h
theorem cell_al {w : World} {a : Addr} {v : Value} (o : Obj) (h : w.cell? a = some v) : (w.alloc o).cell? a = some v := by
  rw [World.cell?_alloc_lt _ _ _ (World.block_lt_of_cell? w _ h)]
  exact h
/-- A row laid into a new block. -/
theorem laid_new (W : World) (Z : Array Value) (t : TypeId) (vs : List Value) (hz : Z.size = vs.length) :
    Below W.heap.size W ((W.alloc (.cells Z t)).setCells W.heap.size 0 vs) ∧ KeepsOthers W ((W.alloc (.cells Z t)).setCells W.heap.size 0 vs) ∧ ((W.alloc (.cells Z t)).setCells W.heap.size 0 vs).heap[W.heap.size]? = some (.cells vs.toArray t (0, 0)) := by
  have hb := but_setCells W.heap.size vs 0 _ _ (But.of_below (G := W.heap.size) ((Below.refl W.heap.size W).alloc (Nat.le_refl _) (.cells Z t)))
  have h := heap_setCells W.heap.size t vs 0 (W.alloc (.cells Z t)) Z (al_at rfl) (by omega)
  rw [splice_all _ _ (by simpa using hz)] at h
  refine ⟨⟨hb.os, hb.tape, hb.output, hb.size, fun k hk => hb.block k hk (by omega)⟩, ⟨hb.size, fun k o hk ho => ?_⟩, h⟩
  have hlt := (Array.getElem?_eq_some_iff.1 hk).1
  exact (hb.block k hlt (by omega)).trans hk
theorem range_wc {W : World} {B : Nat} {p : Nat} {b : List Int} {t : TypeId} (h : W.heap[B]? = some (.cells (wc (p, b)).toArray t (0, 0))) : W.cell? ⟨B, 0, none⟩ = some (.int .i64 (p : Int)) ∧ W.rangeAt B 1 (b.map (Value.int .u8)) := by
  refine ⟨by rw [cell_of_row _ _ _ _ _ _ h]; rfl, fun j v hv => ?_⟩
  rw [cell_of_row _ _ _ _ _ _ h]
  simpa [wc, Nat.add_comm 1 j] using hv
theorem results_cell {fn : Func} {t : Tmp} {ty : TypeId} (h : fn.results = #[.cell t ty]) (tmps : Array Value) (w : World) (b : Nat) (cs : List Value) (d : TypeDesc) (ht : tmps.getD t undef = .pointer (some ⟨b, 0, none⟩)) (hc : w.rangeAt b 0 cs) (hu : Tryz.prog.underlying ty = some d) (hd : d.isRow = true) (hi : (Tryz.prog.info? ty).map (·.size) = some cs.length) :
    (results fn tmps).run Tryz.prog w = .ok (.agg cs.toArray) w := by
  have hl := run_loadVar_mid (P := Tryz.prog) w b 0 ty cs d hc hu hd hi
  simp only [Array.getD_eq_getD_getElem?] at ht
  simp [results, h, ht, hl, asAddr]
theorem range_u8s {W : World} {B : Nat} {b : List Int} {t : TypeId} (h : W.heap[B]? = some (.cells (u8s b) t (0, 0))) : W.rangeAt B 0 (b.map (Value.int .u8)) := fun j v hv => by
  rw [cell_of_row _ _ _ _ _ _ h, Nat.zero_add]
  simpa [u8s] using hv
/-- What came is nothing to the place, or its last is what is sought. -/
theorem lat_none (d : Dk) (hL : Lens d.uw) (i : Nat) (h : ∀ x ∈ came d.uw hL d.uw.length, x.p ≠ i) : lat d i = d.pl i := by
  have : lastOf d.uw i = none := by
    unfold lastOf
    rw [Option.map_eq_none_iff, List.find?_eq_none]
    intro x hx
    obtain ⟨k, hk, rfl⟩ := List.getElem_of_mem (List.mem_reverse.1 hx)
    have := h (itm d.uw hL k) (List.mem_map.2 ⟨d.uw.length - 1 - k, by simp; omega, by congr 1; omega⟩)
    simpa [itm, hk] using this
  rw [lat, this]
  rfl
theorem lat_some (d : Dk) (hL : Lens d.uw) (i k : Nat) (hk : k < d.uw.length) (h : ∀ x ∈ came d.uw hL k, x.p ≠ i) (hp : (itm d.uw hL (d.uw.length - 1 - k)).p = i) : lat d i = (itm d.uw hL (d.uw.length - 1 - k)).b := by
  have hq : d.uw.length - 1 - k < d.uw.length := by omega
  have hr : d.uw.reverse = (d.uw.reverse.take k) ++ d.uw[d.uw.length - 1 - k] :: (d.uw.reverse.drop (k + 1)) := by
    have hk' : k < d.uw.reverse.length := by simpa using hk
    have e : d.uw.reverse[k] = d.uw[d.uw.length - 1 - k] := by simp [List.getElem_reverse]
    rw [← e, List.getElem_cons_drop, List.take_append_drop]
  simp only [itm, hq, dite_true] at hp ⊢
  have : lastOf d.uw i = some d.uw[d.uw.length - 1 - k].2 := by
    unfold lastOf
    rw [hr, List.find?_append]
    have h1 : (d.uw.reverse.take k).find? (fun x => x.1 == i) = none := by
      rw [List.find?_eq_none]
      intro x hx
      obtain ⟨j, hj, rfl⟩ := List.getElem_of_mem hx
      have hj2 : j < k := by simp at hj; omega
      have h3 : d.uw.length - 1 - j < d.uw.length := by omega
      have := h (itm d.uw hL (d.uw.length - 1 - j)) (List.mem_map.2 ⟨j, by simpa using hj2, rfl⟩)
      simp only [itm, h3, dite_true] at this
      simpa [List.getElem_reverse] using this
    rw [h1]
    simp [hp]
  rw [lat, this]
  rfl
theorem pls_range {W : World} {P n i : Nat} {cs : Array Value} {pl : Nat → List Int} {t : TypeId} (hP : W.heap[P]? = some (.cells cs t (0, 0))) (h : Pls cs n pl) (hi : i < n) (hl : (pl i).length = 192) : W.rangeAt P (i * 192) ((pl i).map (Value.int .u8)) := fun j v hv => by
  have hj : j < 192 := by
    have := (List.getElem?_eq_some_iff.1 hv).1
    rw [List.length_map, hl] at this
    exact this
  rw [cell_of_row _ _ _ _ _ _ hP, Nat.mul_comm, h.2 i hi j hj, ← hv]
  simp [List.getD, show j < (pl i).length by omega]
/-- A row of cells is the same where no block of cells has turned. -/
theorem row_own {β : Type} (R : Nat) (t : TypeId) (f : β → Array Value) : Own (fun s W => W.heap[R]? = some (.cells (f s) t (0, 0))) := fun s X Y row hs hg hr =>
  (hg.block R (Array.getElem?_eq_some_iff.1 hs).1 (fun e => by
    obtain ⟨o, ho, hc⟩ := hr R e.symm
    rw [hs] at ho
    cases ho
    cases hc)).trans hs

set_option maxRecDepth 100000 in
set_option maxHeartbeats 4000000 in
theorem latest_at (w : World) (D P : Nat) (uv ov : Value) (d : Dk) (h : At w D P uv ov d) (i : Nat) (hi : i < d.n) (hreach : d.uw.length < 1000000000) :
    Calls Tryz.prog 80 #[.pointer (some ⟨D, 0, none⟩), .int .i64 (i : Int)] w fun e w' => e = .returned (.agg (u8s (lat d i))) ∧ Below w.heap.size w w' := by
  refine (callsIn_wide (n := 3)).1 ?_
  obtain ⟨a, cap, rfl⟩ := own_form2 h.hu
  obtain ⟨c0, c1, -, -, -, -, -⟩ := h.cells
  have HA : Box (At w D P (.slice a d.uw.length cap) ov d) := ⟨h⟩
  obtain ⟨S, HS⟩ : ∃ S, Box (w.heap.size = S) := ⟨_, ⟨rfl⟩⟩
  clear h
  refine callsIn_of_wp_marks Tryz.func80 rfl trivial ?_ rfl
  simp only [Tryz.ntmps80, List.size_toArray, List.length_cons, List.length_nil, Nat.reduceAdd, Nat.reduceSub, Array.replicate_succ, Array.replicate_zero, List.push_toArray, List.append_toArray, List.nil_append, List.cons_append]
  have c1' : ((w.alloc (.cells #[.int .i64 (i : Int)] 3)).alloc (.cells (u8s z192) 135)).cell? ⟨D, 1, none⟩ = some (.slice a d.uw.length cap) := cell_al _ (cell_al _ c1)
  gi_wp2_with (first
    | (refine wpListIn_zero rfl 135 rfl (u8s z192) zero79 ?_)
    | (refine ⟨trivial, ?_⟩; gi_at_call 115; refine (back_in Fence.wide _ trivial rfl _ _ _ _).mono ?_; rintro e w' ⟨rfl, rfl⟩))
  have bI : Boxed (((w.alloc (.cells #[.int .i64 (i : Int)] 3)).alloc (.cells (u8s z192) 135)).alloc (.cells #[.slice a d.uw.length cap] 93)) w.heap.size 3 (.int .i64 (i : Int)) := ((Boxed.new w 3 _).alloc _).alloc _
  have bR : (((w.alloc (.cells #[.int .i64 (i : Int)] 3)).alloc (.cells (u8s z192) 135)).alloc (.cells #[.slice a d.uw.length cap] 93)).heap[w.heap.size + 1]? = some (.cells (u8s z192) 135 (0, 0)) := al_old (al_at (by simp))
  have bS : Boxed (((w.alloc (.cells #[.int .i64 (i : Int)] 3)).alloc (.cells (u8s z192) 135)).alloc (.cells #[.slice a d.uw.length cap] 93)) (w.heap.size + 1 + 1) 93 (.slice a d.uw.length cap) := al_at (by simp)
  have hB0 : Below w.heap.size w (((w.alloc (.cells #[.int .i64 (i : Int)] 3)).alloc (.cells (u8s z192) 135)).alloc (.cells #[.slice a d.uw.length cap] 93)) := (((Below.refl _ w).alloc (Nat.le_refl _) _).alloc (by simp) _).alloc (by simp; omega) _
  have hsz : (((w.alloc (.cells #[.int .i64 (i : Int)] 3)).alloc (.cells (u8s z192) 135)).alloc (.cells #[.slice a d.uw.length cap] 93)).heap.size = w.heap.size + 3 := by simp
  clear c1'
  generalize ((w.alloc (.cells #[.int .i64 (i : Int)] 3)).alloc (.cells (u8s z192) 135)).alloc (.cells #[.slice a d.uw.length cap] 93) = W0 at *
  have hW := ((HA.out.ways).below (hB0)).below (Below.refl _ _)
  refine wpIn_rangeFunc_ownH (F := Fence.wide) (n := 3) (ps := #[12, 13]) rfl (by decide) (gf := 137) (lb := #[.pointer (some ⟨w.heap.size + 1 + 1, 0, none⟩)]) rfl trivial (enters_of Tryz.func137 (by kernel_rfl) rfl)
    (back_stops Fence.wide (3 - 1) trivial rfl (by decide) (w.heap.size + 1 + 1) W0.heap.size cap a d.uw HA.out.lens hreach W0 (by omega) (Nat.le_refl _) bS.cell (fun h0 => by obtain ⟨b, e, h1, h2⟩ := hW h0; exact ⟨b, e, by omega, h2⟩)) belowK_t (belowK_b (Nat.le_refl _)) (Below.refl _ _) (fun x => rfl)
    (fun pre W => ((∀ x ∈ pre, x.p ≠ i) ∧ Boxed W w.heap.size 3 (.int .i64 (i : Int)) ∧ W.heap[w.heap.size + 1]? = some (.cells (u8s z192) 135 (0, 0)) ∧ W0.heap.size ≤ W.heap.size) ∧ Below w.heap.size w W)
    (fun c pre W => (c = .ret ∧ ∃ ini last, pre = ini ++ [last] ∧ (∀ x ∈ ini, x.p ≠ i) ∧ last.p = i ∧ W.heap[w.heap.size + 1]? = some (.cells (u8s last.b) 135 (0, 0))) ∧ Below w.heap.size w W)
    (OwnFrom.and (Own.from (fun s A B row hs hg hr => ⟨hs.1, boxed_own _ _ (fun (_ : Unit) => _) () A B row hs.2.1 hg hr, row_own _ _ (fun (_ : Unit) => _) () A B row hs.2.2.1 hg hr, Nat.le_trans hs.2.2.2 hg.size⟩) _) (ownFrom_below (Nat.le_refl _) (by omega)))
    (fun c => OwnFrom.and (Own.from (fun s A B row hs hg hr => by obtain ⟨hc, ini, last, e1, e2, e3, e4⟩ := hs; exact ⟨hc, ini, last, e1, e2, e3, row_own _ _ (fun (_ : Unit) => _) () A B row e4 hg hr⟩) _) (ownFrom_below (Nat.le_refl _) (by omega)))
    ⟨⟨by simp, bI, bR, Nat.le_refl _⟩, hB0⟩
    (fun x a' W => ∃ Bx, W0.heap.size ≤ Bx ∧ W.heap[Bx]? = some (.cells (wc (x.p, x.b)).toArray 137 (0, 0)) ∧ a' = { tmps := #[.pointer (some ⟨D, 0, none⟩), .int .i64 (i : Int), undef, .pointer (some ⟨w.heap.size, 0, none⟩), .pointer (some ⟨w.heap.size + 1, 0, none⟩), undef, .pointer (some ⟨Bx, 0, none⟩), .pointer (some ⟨D, 0, none⟩), .pointer (some ⟨D, 0, none⟩), .pointer (some ⟨D, 1, none⟩), .slice a d.uw.length cap, .func (.func 137) #[] #[.pointer (some ⟨w.heap.size + 1 + 1, 0, none⟩)], .int .i64 (x.k : Int), .agg (wc (x.p, x.b)).toArray, undef, undef, undef, undef, undef, undef, undef, undef, undef, undef, undef, undef, undef], defers := [] })
    (fun x a' _ X Y row hs hg hr => by obtain ⟨Bx, h1, h2, h3⟩ := hs; exact ⟨Bx, h1, row_own _ _ (fun (_ : Unit) => _) () X Y row h2 hg (fun r e => (hr r e).2), h3⟩)
    ?assign ?body ?done ?stop
  case assign =>
    rintro l pre x W K ⟨⟨h1, h2, h3, h5⟩, h4⟩ hK
    rename_i ax
    clear ax bI bR bS hB0 hW c0 c1
    simp only [Wr.enc, List.zip_toArray, List.zip_cons_cons, List.zip_nil_right, List.foldl_toArray, List.foldl_cons, List.foldl_nil, List.setIfInBounds_toArray, List.set_cons_succ, List.set_cons_zero]
    have hz : (wc (0, z192)).toArray.size = (wc (x.p, x.b)).length := by rw [length_wc _ x.hb]; exact length_wc _ length_z192
    have HN : Box _ := ⟨laid_new W (wc (0, z192)).toArray 137 (wc (x.p, x.b)) hz⟩
    have HT : Box ((W.alloc (.cells (wc (0, z192)).toArray 137)).there W.heap.size 0 (wc (x.p, x.b)).toArray.size) := ⟨there_row (al_at rfl) (by rw [hz]; simp)⟩
    have HI : Box ((Tryz.prog.info? 137).map (·.size) = some (wc (x.p, x.b)).toArray.size) := ⟨by rw [List.size_toArray, length_wc _ x.hb]; exact info84⟩
    have HE : Box (W0.heap.size ≤ W.heap.size) := ⟨h5⟩
    clear hz h5
    gi_wp2_with (first
      | (refine wpListIn_zero rfl 137 rfl _ zero84 ?_)
      | (refine wpListIn_put rfl 137 _ _ rfl W.heap.size 0 (wc (x.p, x.b)).toArray rfl rfl HT.out HI.out (all_oneCell_toArray (one_wc _)) ?_))
    obtain ⟨n1, n2, n3⟩ := HN.out
    exact hK _ _ (n2.from _) (n1.mono HE.out) ⟨⟨h1, (n1.block _ h2.lt).trans h2, (n1.block _ (Array.getElem?_eq_some_iff.1 h3).1).trans h3, Nat.le_trans HE.out n1.size⟩, h4.trans (n1.mono h4.size)⟩ ⟨_, HE.out, n3, rfl⟩
  case body =>
    rintro l pre x a' W hl ⟨r, hr⟩ ⟨⟨h1, h2, h3, h5⟩, h4⟩ ⟨Bx, hBx, bX, rfl⟩ hlt
    rename_i ax
    clear ax bI bR bS hB0 hW c0 c1
    have cI := h2.cell
    obtain ⟨cX, rX⟩ := range_wc bX
    by_cases hp : x.p = i
    · have hz : (u8s x.b).size = 192 := by rw [size_u8s]; exact x.hb
      have HR : Box (W.rangeAt Bx 1 (x.b.map (Value.int .u8))) := ⟨rX⟩
      have HT : Box (W.there (w.heap.size + 1) 0 (u8s x.b).size) := ⟨there_row h3 (by rw [hz, size_u8s, length_z192]; omega)⟩
      have HI : Box ((Tryz.prog.info? 135).map (·.size) = some (u8s x.b).size) := ⟨by rw [hz]; exact info79⟩
      have HJ : Box ((Tryz.prog.info? 135).map (·.size) = some (x.b.map (Value.int .u8)).length) := ⟨by rw [List.length_map, x.hb]; exact info79⟩
      have HS3 : Box ((W.setCells (w.heap.size + 1) 0 (u8s x.b).toList).heap[w.heap.size + 1]? = some (.cells (u8s x.b) 135 (0, 0))) := ⟨by
        rw [heap_setCells _ _ _ _ _ _ h3 (by rw [Array.length_toList, hz, size_u8s, length_z192]; omega), splice_all _ _ (by rw [Array.length_toList, Array.length_toList, hz, size_u8s, length_z192])]⟩
      have HB : Box (But (w.heap.size + 1) W (W.setCells (w.heap.size + 1) 0 (u8s x.b).toList)) := ⟨but_setCells _ _ _ _ _ (But.refl _ _)⟩
      have hpi : ((x.p : Int) == (i : Int)) = true := by simp [hp]
      clear hz rX
      gi_wp2_with (first
        | (refine wpListIn_load2 rfl 135 _ rfl Bx 1 rfl (x.b.map (Value.int .u8)) _ HR.out Tryz.underlying135 rfl HJ.out ?_)
        | (refine wpListIn_put rfl 135 _ _ rfl (w.heap.size + 1) 0 (u8s x.b) rfl rfl HT.out HI.out (all_u8s _) ?_))
      refine ⟨⟨HB.out.size, fun k o hk hk0 ho => ?_⟩, ⟨rfl, pre, x, rfl, h1, hp, HS3.out⟩, h4.trans ⟨HB.out.os, HB.out.tape, HB.out.output, HB.out.size, fun k hk => HB.out.block k (by have := h4.size; omega) (by omega)⟩⟩
      exact (HB.out.block k (Array.getElem?_eq_some_iff.1 hk0).1 (by omega)).trans hk0
    · have hpi : ((x.p : Int) == (i : Int)) = false := by simp; omega
      clear rX
      gi_wp2
      exact ⟨KeepsFrom.refl _ _, Below.refl _ _, ⟨fun y hy => (List.mem_append.1 hy).elim (h1 y) (fun e => by simp at e; subst e; exact hp), h2, h3, h5⟩, h4⟩
  case done =>
    rintro Dd ys W hD rfl ⟨⟨h1, h2, h3, h5⟩, h4⟩ hK
    have hlat : lat d i = d.pl i := lat_none d _ i h1
    have HA2 := HA.out.below h4
    obtain ⟨cs, hP, hPs⟩ := HA2.hp
    obtain ⟨g0, -, -, -, -, -, -⟩ := HA2.cells
    have hDl := HA.out.lt D (.inl rfl)
    have hPl := HA.out.lt P (.inr (.inl rfl))
    have hlp := (HA.out.hpl i).1
    have G0 : Box (W.drew.cell? ⟨D, 0, none⟩ = some (.slice (some ⟨P, 0, none⟩) d.n d.n)) := ⟨g0⟩
    have GI : Box (W.drew.cell? ⟨w.heap.size, 0, none⟩ = some (.int .i64 (i : Int))) := ⟨h2.cell⟩
    have GP : Box (W.drew.rangeAt P (i * 192) ((d.pl i).map (Value.int .u8))) := ⟨pls_range hP hPs hi hlp⟩
    have GS : Box ((Tryz.prog.info? 135).map (·.size) = some ((d.pl i).map (Value.int .u8)).length) := ⟨by rw [List.length_map, hlp]; exact info79⟩
    have GZ : Box ((Tryz.prog.info? 135).map (·.size) = some (u8s (d.pl i)).size) := ⟨by rw [size_u8s, hlp]; exact info79⟩
    have GT : Box (W.drew.there (w.heap.size + 1) 0 (u8s (d.pl i)).size) := ⟨there_row (show W.drew.heap[w.heap.size + 1]? = _ from h3) (by rw [size_u8s, size_u8s, length_z192, hlp]; omega)⟩
    have GR : Box ((W.drew.setCells (w.heap.size + 1) 0 (u8s (d.pl i)).toList).heap[w.heap.size + 1]? = some (.cells (u8s (d.pl i)) 135 (0, 0))) := ⟨by
      rw [heap_setCells _ _ _ _ _ _ (show W.drew.heap[w.heap.size + 1]? = _ from h3) (by rw [Array.length_toList, size_u8s, size_u8s, length_z192, hlp]; omega), splice_all _ _ (by rw [Array.length_toList, Array.length_toList, size_u8s, size_u8s, length_z192, hlp])]⟩
    have GB : Box (But (w.heap.size + 1) W (W.drew.setCells (w.heap.size + 1) 0 (u8s (d.pl i)).toList)) := ⟨but_setCells _ _ _ _ _ (But.refl _ _).drew⟩
    clear hP hPs g0 HA2 c0 c1 bI bR bS hB0 hW
    rename_i KK ax
    show KK _ _
    refine ax _ _ ?_
    clear ax
    refine wpIn_wide.2 ?_
    refine wp_seq (wp_mono (Q := Exit.then _ (fun _ _ _ => False)) ?_ (fun e a w h => by cases e <;> first | exact h | exact h.elim))
    refine begin_but (w.heap.size + 1) (by kernel_rfl) (fun wd hwd => ?_)
    subst hwd
    refine take_but (i := 0) (v := ?_) rfl (by kernel_rfl) (by kernel_rfl) (by kernel_rfl) (fun _ _ _ h => h) (by rfl) ?_ ?_
    rotate_left
    · intro w' hB; clear hB; go_simp <;> with_reducible rfl
    try simp only [Act.put, List.setIfInBounds_toArray, List.set_cons_zero, List.set_cons_succ, List.getElem_toArray, List.getElem_cons_zero]
    refine take_but (i := 1) (v := ?_) rfl (by kernel_rfl) (by kernel_rfl) (by kernel_rfl) (fun _ _ _ h => h) (by rfl) ?_ ?_
    rotate_left
    · intro w' hB; clear hB; go_simp <;> with_reducible rfl
    try simp only [Act.put, List.setIfInBounds_toArray, List.set_cons_zero, List.set_cons_succ, List.getElem_toArray, List.getElem_cons_zero, List.getElem_cons_succ]
    refine take_but (i := 2) (v := ?_) rfl (by kernel_rfl) (by kernel_rfl) (by kernel_rfl) (fun _ _ _ h => h) (by rfl) ?_ ?_
    rotate_left
    · intro w' hB; clear hB; go_simp <;> with_reducible rfl
    try simp only [Act.put, List.setIfInBounds_toArray, List.set_cons_zero, List.set_cons_succ, List.getElem_toArray, List.getElem_cons_zero, List.getElem_cons_succ]
    refine take_but (i := 3) (v := .slice (some ⟨P, 0, none⟩) d.n d.n) rfl (by kernel_rfl) (by kernel_rfl) (by kernel_rfl) (fun _ _ _ h => h) (by rfl) (fun w' hB => exec_load1 92 _ _ rfl Tryz.underlying92 rfl _ rfl _ (but_cell hB G0.out (by show D ≠ _; omega))) ?_
    try simp only [Act.put, List.setIfInBounds_toArray, List.set_cons_zero, List.set_cons_succ, List.getElem_toArray, List.getElem_cons_zero, List.getElem_cons_succ]
    refine take_but (i := 4) (v := .int .i64 (i : Int)) rfl (by kernel_rfl) (by kernel_rfl) (by kernel_rfl) (fun _ _ _ h => h) (by rfl) (fun w' hB => exec_load1 3 _ _ rfl Tryz.underlying3 rfl _ rfl _ (but_cell hB GI.out (by show w.heap.size ≠ _; omega))) ?_
    try simp only [Act.put, List.setIfInBounds_toArray, List.set_cons_zero, List.set_cons_succ, List.getElem_toArray, List.getElem_cons_zero, List.getElem_cons_succ]
    refine take_but (i := 5) (v := ?_) rfl (by kernel_rfl) (by kernel_rfl) (by kernel_rfl) (fun _ _ _ h => h) (by rfl) ?_ ?_
    rotate_left
    · intro w' hB; clear hB; go_simp <;> with_reducible rfl
    try simp only [Act.put, List.setIfInBounds_toArray, List.set_cons_zero, List.set_cons_succ, List.getElem_toArray, List.getElem_cons_zero, List.getElem_cons_succ]
    refine take_but (i := 6) (v := .agg (u8s (d.pl i))) rfl (by kernel_rfl) (by kernel_rfl) (by kernel_rfl) (fun _ _ _ h => h) (by rfl) (fun w' hB => exec_load_mid 135 _ _ rfl Tryz.underlying135 rfl P (i * 192) rfl ((d.pl i).map (Value.int .u8)) GS.out (but_range hB GP.out (by omega))) ?_
    try simp only [Act.put, List.setIfInBounds_toArray, List.set_cons_zero, List.set_cons_succ, List.getElem_toArray, List.getElem_cons_zero, List.getElem_cons_succ]
    refine last_but (i := 7) rfl (by kernel_rfl) (by rfl) (by kernel_rfl) 135 _ _ rfl 0 (u8s (d.pl i)) rfl rfl GT.out GZ.out (all_u8s _) ?_
    refine wp_ret ?_
    have hK' := (GB.out.block Dd (Array.getElem?_eq_some_iff.1 hK).1 (by omega)).trans hK
    refine ⟨by simp, .inl ⟨_, _, rfl, run_takeDeferred hK', ?_⟩⟩
    have hR : ((W.drew.setCells (w.heap.size + 1) 0 (u8s (d.pl i)).toList).putObj Dd (.deferred none)).heap[w.heap.size + 1]? = some (.cells (u8s (d.pl i)) 135 (0, 0)) := (World.putObj_heap_other (by omega)).trans GR.out
    refine ⟨_, results_cell (b := w.heap.size + 1) rfl _ _ ((d.pl i).map (Value.int .u8)) _ rfl (range_u8s hR) Tryz.underlying135 rfl GS.out, by rw [hlat]; rfl, ?_⟩
    exact (h4.trans ⟨GB.out.os, GB.out.tape, GB.out.output, GB.out.size, fun k hk => GB.out.block k (by have := h4.size; omega) (by omega)⟩).trans (belowK_b (w := w) (Nat.le_refl _) _ Dd _ _ (by omega) hK' rfl rfl)
  case stop =>
    rintro Dd c pre W hD ⟨k, hk, rfl⟩ ⟨⟨rfl, ini, last, e1, e2, e3, hcr⟩, hB⟩ hK
    rename_i KK ax
    clear ax bI bR bS hB0 hW c0 c1
    obtain ⟨k', rfl⟩ : ∃ k', k = k' + 1 := by
      cases k with
      | zero => simp [came] at e1
      | succ k' => exact ⟨k', rfl⟩
    rw [came_succ] at e1
    obtain ⟨rfl, e5⟩ := List.append_inj' e1 rfl
    obtain rfl : itm d.uw HA.out.lens (d.uw.length - 1 - k') = last := by simpa using e5
    have hlat := lat_some d HA.out.lens i k' (by omega) e2 e3
    rw [← hlat] at hcr
    have hl : (lat d i).length = 192 := by rw [hlat]; exact (itm d.uw HA.out.lens (d.uw.length - 1 - k')).hb
    refine wpIn_ret ?_
    refine ⟨by simp, .inl ⟨_, _, rfl, run_takeDeferred hK, ?_⟩⟩
    have hR : (W.putObj Dd (.deferred none)).heap[w.heap.size + 1]? = some (.cells (u8s (lat d i)) 135 (0, 0)) := (World.putObj_heap_other (by omega)).trans hcr
    refine ⟨_, results_cell (b := w.heap.size + 1) rfl _ _ ((lat d i).map (Value.int .u8)) _ rfl (range_u8s hR) Tryz.underlying135 rfl (by rw [List.length_map, hl]; exact info79), rfl, ?_⟩
    exact hB.trans (belowK_b (w := w) (Nat.le_refl _) _ Dd _ _ (by omega) hK rfl rfl)
end Go.Proofs.YtnicgmimhgbcfaaGreatDoor.Disk
