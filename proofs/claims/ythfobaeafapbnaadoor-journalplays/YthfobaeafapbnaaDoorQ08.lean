/-
 A disk in memory, told plainly: its places, what is under way, its operations; and the worlds in which nothing but its own blocks has turned. Nothing of the program is said here but the types' numbers. And what follows it.
-/
import Derived.Test.YthfobaeafapbnaaDoorQ00
import Derived.Test.YthfobaeafapbnaaDoorRows
import Derived.WalkKit
import Derived.WalkSpells
import Derived.WalkLawsBesides
import Derived.RangeFuncNested
import Derived.RangeFuncBound
import Derived.RangeFuncCalls
import Derived.RangeFuncLeaves
import Derived.Shelf.Abstract
import Derived.Shelf.RegionOpen
import Derived.OwnWalkIn
import Derived.TacticsInMore
import Derived.LoopNIn
import Derived.LoopIn
set_option linter.unusedVariables false
set_option maxRecDepth 100000
namespace Go.Proofs.YthfobaeafapbnaaDoor.Disk.Plain
end Go.Proofs.YthfobaeafapbnaaDoor.Disk.Plain
namespace Go.Proofs.YthfobaeafapbnaaDoor.Disk
open Go.RowKit Go.Proofs.YthfobaeafapbnaaDoor.Plain Go.Proofs.YthfobaeafapbnaaDoor.Disk.Plain
def z192 : List Int := List.replicate 192 0
theorem length_z192 : z192.length = 192 := List.length_replicate
theorem byt_z192 : Byt z192 := byt_zeros 192
theorem getD_zeros (n j : Nat) : (List.replicate n (0 : Int)).getD j 0 = 0 := by
 simp only [List.getD, List.getElem?_replicate]
 split <;> rfl
theorem getD_z192 (j : Nat) : z192.getD j 0 = 0 := getD_zeros 192 j
structure Dk where
 n : Nat
 pl : Nat -> List Int
 uw : List (Nat × List Int)
 ops : List (Int × Int)
 down : Bool
 st : Bool
 left : Int
def wc (x : Nat × List Int) : List Value := .int .i64 (x.1 : Int) :: x.2.map (Value.int .u8)
def wcs (L : List (Nat × List Int)) : List Value := (L.map wc).flatten
def oc (x : Int × Int) : List Value := [.int .i64 x.1, .int .i64 x.2]
def ocs (L : List (Int × Int)) : List Value := (L.map oc).flatten
theorem wcs_snoc (L : List (Nat × List Int)) (x : Nat × List Int) : wcs (L ++ [x]) = wcs L ++ wc x := by simp [wcs]
theorem ocs_snoc (L : List (Int × Int)) (x : Int × Int) : ocs (L ++ [x]) = ocs L ++ oc x := by simp [ocs]
theorem length_wc (x : Nat × List Int) (h : x.2.length = 192) : (wc x).length = 193 := by simp [wc, h]
theorem one_wc (x : Nat × List Int) : ∀ u ∈ wc x, u.oneCell' = true := by
 intro u hu
 simp only [wc, List.mem_cons, List.mem_map] at hu
 rcases hu with rfl | ⟨z, _, rfl⟩ <;> rfl
theorem one_oc (x : Int × Int) : ∀ u ∈ oc x, u.oneCell' = true := by
 intro u hu
 simp only [oc, List.mem_cons, List.not_mem_nil, or_false] at hu
 rcases hu with rfl | rfl <;> rfl
theorem flat_at (L : List (List Value)) (sz : Nat) (hL : ∀ x ∈ L, x.length = sz) (k : Nat) (hk : k < L.length) (j : Nat) (hj : j < sz) : L.flatten[sz * k + j]? = (L[k])[j]? := by
 induction L generalizing k with
 | nil => simp at hk
 | cons x L ih =>
  have hx : x.length = sz := hL x (by simp)
  cases k with
  | zero => simp [List.getElem?_append, hx, hj]
  | succ k =>
   have h1 : sz * (k + 1) + j - x.length = sz * k + j := by rw [hx, Nat.mul_succ]; omega
   rw [List.flatten_cons, List.getElem?_append_right (by rw [hx, Nat.mul_succ]; omega), h1, ih (fun y hy => hL y (by simp [hy])) k (by simpa using hk)]
   simp
theorem flat_length (L : List (List Value)) (sz : Nat) (hL : ∀ x ∈ L, x.length = sz) : L.flatten.length = L.length * sz := by
 induction L with
 | nil => simp
 | cons x L ih => simp [hL x (by simp), ih (fun y hy => hL y (by simp [hy])), Nat.succ_mul]; omega
def Good (n : Nat) (L : List (Nat × List Int)) : Prop := ∀ x ∈ L, x.1 < n /\ x.2.length = 192 /\ Byt x.2
theorem Good.snoc {n : Nat} {L : List (Nat × List Int)} (h : Good n L) (x : Nat × List Int) (hx : x.1 < n /\ x.2.length = 192 /\ Byt x.2) : Good n (L ++ [x]) := by
 intro y hy
 rcases List.mem_append.1 hy with hy | hy
 ·exact h y hy
 ·simp at hy; subst hy; exact hx
theorem Good.all {n : Nat} {L : List (Nat × List Int)} (h : Good n L) : ∀ x ∈ L.map wc, x.length = 193 := by
 intro x hx
 obtain ⟨y, hy, rfl⟩ := List.mem_map.1 hx
 exact length_wc y (h y hy).2.1
theorem ocs_all (L : List (Int × Int)) : ∀ x ∈ L.map oc, x.length = 2 := by
 intro x hx
 obtain ⟨y, hy, rfl⟩ := List.mem_map.1 hx
 rfl
def foot (D P : Nat) (uv ov : Value) (k : Nat) : Prop := k = D ∨ k = P ∨ uv.ownBlock = some k ∨ ov.ownBlock = some k
def Pls (cs : Array Value) (n : Nat) (pl : Nat -> List Int) : Prop := cs.size = 192 * n /\ ∀ i, i < n -> ∀ j, j < 192 -> cs[192 * i + j]? = some (.int .u8 ((pl i).getD j 0))
structure At (w : World) (D P : Nat) (uv ov : Value) (d : Dk) : Prop where
 hd : w.heap[D]? = some (.cells #[.slice (some ⟨P, 0, none⟩) d.n d.n, uv, ov, .bool d.down, .bool d.st, .int .i64 d.left] 76 (0, 0))
 hp : ∃ cs, w.heap[P]? = some (.cells cs 121 (0, 0)) /\ Pls cs d.n d.pl
 hpl : ∀ i, (d.pl i).length = 192 /\ Byt (d.pl i)
 hn : 1 <= d.n /\ d.n <= 4096
 hu : w.ownsRow 0 123 193 uv d.uw.length (wcs d.uw)
 huw : Good d.n d.uw
 ho : w.ownsRow 0 131 2 ov d.ops.length (ocs d.ops)
 neP : D ≠ P
 neU : uv.ownBlock ≠ some D /\ uv.ownBlock ≠ some P
 neO : ov.ownBlock ≠ some D /\ ov.ownBlock ≠ some P
 neUO : uv.ownBlock = none ∨ uv.ownBlock ≠ ov.ownBlock
structure Turned (fp : Nat -> Prop) (w w' : World) : Prop where
 os : w'.os = w.os
 tape : w'.tape = w.tape
 output : w'.output = w.output
 size : w.heap.size <= w'.heap.size
 block : ∀ k, k < w.heap.size -> ¬ fp k -> w'.heap[k]? = w.heap[k]?
def Is (w : World) (D : Nat) (fp : Nat -> Prop) (d : Dk) : Prop := ∃ P uv ov, At w D P uv ov d /\ ∀ k, foot D P uv ov k -> fp k
def Nx (D : Nat) (fp : Nat -> Prop) (w w' : World) (d' : Dk) : Prop := ∃ fp', Is w' D fp' d' /\ Turned fp w w' /\ ∀ k, fp' k -> fp k ∨ w.heap.size <= k
theorem Turned.refl (fp : Nat -> Prop) (w : World) : Turned fp w w := ⟨rfl, rfl, rfl, Nat.le_refl _, fun _ _ _ => rfl⟩
theorem Turned.trans {fp fp' : Nat -> Prop} {a b c : World} (h : Turned fp a b) (k : Turned fp' b c) (hs : ∀ k, fp' k -> fp k ∨ a.heap.size <= k) : Turned fp a c :=
 ⟨k.os.trans h.os, k.tape.trans h.tape, k.output.trans h.output, Nat.le_trans h.size k.size, fun i hi hn =>
  (k.block i (Nat.lt_of_lt_of_le hi h.size) (fun hf => (hs i hf).elim hn (fun hle => by omega))).trans (h.block i hi hn)⟩
theorem Turned.of_below {fp : Nat -> Prop} {w w' : World} (h : Below w.heap.size w w') : Turned fp w w' := ⟨h.os, h.tape, h.output, h.size, fun k hk _ => h.block k hk⟩
theorem Turned.below {fp : Nat -> Prop} {w w' : World} {B : Nat} (h : Turned fp w w') (hB : B <= w.heap.size) (hf : ∀ k, fp k -> B <= k) : Below B w w' :=
 ⟨h.os, h.tape, h.output, h.size, fun k hk => h.block k (by omega) (fun hfk => by have := hf k hfk; omega)⟩
theorem Turned.cell {fp : Nat -> Prop} {w w' : World} (h : Turned fp w w') {a : Addr} {v : Value} (hc : w.cell? a = some v) (hn : ¬ fp a.block) : w'.cell? a = some v :=
 (World.cell?_of_block (h.block a.block (World.block_lt_of_cell? w a hc) hn)).trans hc
theorem own_same {w w' : World} {base n : Nat} {e : TypeId} {sz : Nat} {v : Value} {xs : List Value} (h : w.ownsRow base e sz v n xs) (hs : ∀ k, v.ownBlock = some k -> w'.heap[k]? = w.heap[k]?) : w'.ownsRow base e sz v n xs := by
 refine ⟨h.1, ?_⟩
 rcases h.2 with hn | ⟨g, cap, cur, rfl, hb, hgg, rest⟩
 ·exact .inl hn
 ·exact .inr ⟨g, cap, cur, rfl, hb, by rw [hs g rfl]; exact hgg, rest⟩
theorem At.lt {w : World} {D P : Nat} {uv ov : Value} {d : Dk} (h : At w D P uv ov d) : ∀ k, foot D P uv ov k -> k < w.heap.size := by
 rintro k (rfl | rfl | hk | hk)
 ·exact (Array.getElem?_eq_some_iff.1 h.hd).1
 ·obtain ⟨cs, h1, _⟩ := h.hp
  exact (Array.getElem?_eq_some_iff.1 h1).1
 ·exact (h.hu.lt k hk).2
 ·exact (h.ho.lt k hk).2
theorem At.same {w w' : World} {D P : Nat} {uv ov : Value} {d : Dk} (h : At w D P uv ov d) (hs : ∀ k, foot D P uv ov k -> w'.heap[k]? = w.heap[k]?) : At w' D P uv ov d := by
 obtain ⟨cs, h1, h2⟩ := h.hp
 exact ⟨by rw [hs D (.inl rfl)]; exact h.hd, ⟨cs, by rw [hs P (.inr (.inl rfl))]; exact h1, h2⟩, h.hpl, h.hn, own_same h.hu (fun k hk => hs k (.inr (.inr (.inl hk)))), h.huw, own_same h.ho (fun k hk => hs k (.inr (.inr (.inr hk)))), h.neP, h.neU, h.neO, h.neUO⟩
theorem At.below {w w' : World} {D P : Nat} {uv ov : Value} {d : Dk} (h : At w D P uv ov d) (hb : Below w.heap.size w w') : At w' D P uv ov d := h.same (fun k hk => hb.block k (h.lt k hk))
theorem Is.below {w w' : World} {D : Nat} {fp : Nat -> Prop} {d : Dk} (h : Is w D fp d) (hb : Below w.heap.size w w') : Is w' D fp d := by
 obtain ⟨P, uv, ov, h1, h2⟩ := h
 exact ⟨P, uv, ov, h1.below hb, h2⟩
theorem Is.same {w w' : World} {D : Nat} {fp : Nat -> Prop} {d : Dk} (h : Is w D fp d) (hs : ∀ k, fp k -> k < w.heap.size -> w'.heap[k]? = w.heap[k]?) : Is w' D fp d := by
 obtain ⟨P, uv, ov, h1, h2⟩ := h
 exact ⟨P, uv, ov, h1.same (fun k hk => hs k (h2 k hk) (h1.lt k hk)), h2⟩
theorem Is.cut {w : World} {D : Nat} {fp : Nat -> Prop} {d : Dk} (h : Is w D fp d) : Is w D (fun k => fp k /\ k < w.heap.size) d := by
 obtain ⟨P, uv, ov, h1, h2⟩ := h
 exact ⟨P, uv, ov, h1, fun k hk => ⟨h2 k hk, h1.lt k hk⟩⟩
theorem Nx.trans {D : Nat} {fp fp' : Nat -> Prop} {a b c : World} {d' d'' : Dk} (t : Turned fp a b) (s : ∀ k, fp' k -> fp k ∨ a.heap.size <= k) (h : Nx D fp' b c d'') : Nx D fp a c d'' := by
 obtain ⟨fp2, i2, t2, s2⟩ := h
 refine ⟨fp2, i2, t.trans t2 s, fun k hk => ?_⟩
 rcases s2 k hk with h1 | h1
 ·exact s k h1
 ·exact .inr (Nat.le_trans t.size h1)
theorem wpList_run {ops : Array Oper} {rest : List Oper} {o : Oper} {a : Act} {w : World} {Q : Exit -> Act -> World -> Prop} (hg : o.guard = none) (v : Value) (w' : World) (hr : (execOp a.eval o).run Tryd.prog w = .ok (.value v) w') (h : wpList Tryd.prog ops Q rest (a.put o.dst v) w') : wpList Tryd.prog ops Q (o :: rest) a w :=
 wpList_plain hg fun _ hK => by unfold Oper.wp; rw [hr]; exact hK _ _ h
theorem exec_alloc {o : Oper} {ρ : Operand -> Value} {w : World} (t : TypeId) (ho : o.op = .alloc t) (Z : Array Value) (hz : (Tryd.prog.info? t).map (·.zero) = some (some (.agg Z))) :
  (execOp ρ o).run Tryd.prog w = .ok (.value (.pointer (some ⟨w.heap.size, 0, none⟩))) (w.alloc (.cells Z t)) := by
 cases hq : Tryd.prog.info? t with
 | none => simp [hq] at hz
 | some i =>
  have hs : i.zero = some (.agg Z) := by simpa [hq] using hz
  unfold execOp
  simp [ho, Instr.alloc, zeroValue, typeInfo, hq, hs, newVar, newRow, Value.cells, Sem.run_bind]
theorem zero84 : (Tryd.prog.info? 123).map (·.zero) = some (some (.agg (wc (0, z192)).toArray)) := by kernel_rfl
theorem info79 : (Tryd.prog.info? 121).map (·.size) = some 192 := by kernel_rfl
theorem info84 : (Tryd.prog.info? 123).map (·.size) = some 193 := by kernel_rfl
theorem run_app {P : Program} (w : World) (t ty e : TypeId) (i : TypeInfo) (z : Value) (size bytes : Nat) (ht : P.underlying t = some (.slice e)) (hi : P.info? e = some i) (hz : i.zero = some z)
  (hsize : i.size = size) (hby : i.bytes = bytes) (hzs : z.cells.size = size) (hsz : 0 < size) (v : Value) (n : Nat) (xs : List Value) (hown : w.ownsRow 0 e size v n xs)
  (a : Addr) (m c : Nat) (news : List Value) (hl : news.length = m * size) (hnews : ∀ j u, news[j]? = some u -> w.cell? (a.add j) = some u) (h1 : ∀ u ∈ news, u.oneCell' = true)
  (h63 : n + m <= maxLen) (hbytes : (n + m) * bytes <= 140737488355328) :
  ∃ v' w', (Builtin.append_ #[t, t] ty #[v, .slice (some a) m c]).run P w = .ok v' w' /\ w'.ownsRow 0 e size v' (n + m) (xs ++ news) /\ w.grownBy w' v.ownBlock /\ ∀ k, v'.ownBlock = some k -> v.ownBlock = some k ∨ w.heap.size <= k := by
 obtain ⟨v', w', hr, h2, h3, h4⟩ := run_append_own (P := P) w 0 t ty e i z size bytes ht hi hz hsize hby hzs hsz v n xs hown a m c news hl hnews h1 h63 hbytes (Nat.zero_le _)
 refine ⟨v', w', hr, h2, h3, ?_⟩
 rcases hown.2 with ⟨rfl, rfl⟩ | ⟨g, cap, cur, rfl, hbg, hg, hnc, hcm, hcs, htake⟩
 ·have hx : xs = [] := List.eq_nil_of_length_eq_zero (by simpa using hown.1)
  subst hx
  obtain ⟨v2, w2, hr2, h22, _⟩ := run_append_own (P := P) w w.heap.size t ty e i z size bytes ht hi hz hsize hby hzs hsz _ 0 [] (World.ownsRow_nil w w.heap.size e size) a m c news hl hnews h1 h63 hbytes (Nat.le_refl _)
  rw [hr] at hr2
  simp only [Result.ok.injEq] at hr2
  obtain ⟨rfl, rfl⟩ := hr2
  exact fun k hk => .inr (h22.lt k hk).1
 ·subst hsize
  subst hby
  by_cases hroom : n + m <= cap
  ·have hfit : n * i.size + news.length <= cur.size := by rw [hl, hcs, <- Nat.add_mul]; exact Nat.mul_le_mul_right _ hroom
   have hr2 := run_append_room (P := P) w t ty e i ht hi g n cap cur hg a m c news hl hnews h1 hroom hfit
   rw [hr] at hr2
   simp only [Result.ok.injEq] at hr2
   obtain ⟨rfl, rfl⟩ := hr2
   exact fun k hk => .inl hk
  ·have hsmall : n + m <= 9223372036854775807 := by simp only [maxLen] at h63; omega
   have holds : ∀ j u, xs[j]? = some u -> w.cell? ((⟨g, 0, none⟩ : Addr).add j) = some u := hown.cells (g := g) rfl
   have hr2 := run_append_grow (P := P) w t ty e i z ht hi hz ⟨g, 0, none⟩ n cap xs hown.1 holds a m c news hl hnews (by omega) (by omega) (growslice_fits (by omega) hbytes)
   rw [hr] at hr2
   simp only [Result.ok.injEq] at hr2
   obtain ⟨rfl, rfl⟩ := hr2
   exact fun k hk => .inr (by simp [Value.ownBlock] at hk; omega)
theorem wp_app {P : Program} {o : Oper} {act : Act} {w : World} {K : Act -> World -> Prop} {Q : Exit -> Act -> World -> Prop} (s x : Operand) (t : TypeId) (ho : o.op = .call { callee := .builtin .append, args := #[s, x], argTypes := #[t, t] })
  (e : TypeId) (size bytes : Nat) (z : Value) (ht : P.underlying t = some (.slice e)) (hi : (P.info? e).map (fun i => (i.zero, i.size, i.bytes)) = some (some z, size, bytes)) (hzs : z.cells.size = size) (hsz : 0 < size) (v : Value) (n : Nat) (xs : List Value) (hs : act.eval s = v) (hown : w.ownsRow 0 e size v n xs)
  (a : Addr) (m c : Nat) (news : List Value) (hx : act.eval x = .slice (some a) m c) (hl : news.length = m * size) (hnews : ∀ j u, news[j]? = some u -> w.cell? (a.add j) = some u) (h1 : ∀ u ∈ news, u.oneCell' = true)
  (hbytes : (n + m) * bytes <= 140737488355328) (hb : 0 < bytes)
  (h : ∀ v' w', w'.ownsRow 0 e size v' (n + m) (xs ++ news) -> w.grownBy w' v.ownBlock -> (∀ k, v'.ownBlock = some k -> v.ownBlock = some k ∨ w.heap.size <= k) -> K (act.put o.dst v') w') : o.wp P act w K Q := by
 obtain ⟨i, hi, hz, hsize, hby⟩ := info_parts hi
 have h63 : n + m <= maxLen := by
  have : (n + m) * 1 <= (n + m) * bytes := Nat.mul_le_mul_left _ hb
  unfold maxLen
  omega
 obtain ⟨v', w', hr, h2, h3, h4⟩ := run_app (P := P) w t o.type e i z size bytes ht hi hz hsize hby hzs hsz v n xs hown a m c news hl hnews h1 h63 hbytes
 unfold Oper.wp execOp
 simp only [ho, resolve, invoke, builtin, Sem.run_bind, Sem.run_pure, Result.andThen_ok, List.map_toArray, List.map_cons, List.map_nil, hs, hx, hr]
 exact h v' w' h2 h3 h4
theorem wpList_app2 {P : Program} {ops : Array Oper} {rest : List Oper} {o : Oper} {act : Act} {w : World} {Q : Exit -> Act -> World -> Prop} (hgd : o.guard = none) (s x : Operand) (t : TypeId) (ho : o.op = .call { callee := .builtin .append, args := #[s, x], argTypes := #[t, t] })
  (e : TypeId) (size bytes : Nat) (z : Value) (ht : P.underlying t = some (.slice e)) (hi : (P.info? e).map (fun i => (i.zero, i.size, i.bytes)) = some (some z, size, bytes)) (hzs : z.cells.size = size) (hsz : 0 < size) (v : Value) (n : Nat) (xs : List Value) (hs : act.eval s = v) (hown : w.ownsRow 0 e size v n xs)
  (a : Addr) (m c : Nat) (news : List Value) (hx : act.eval x = .slice (some a) m c) (hl : news.length = m * size) (hnews : ∀ j u, news[j]? = some u -> w.cell? (a.add j) = some u) (h1 : ∀ u ∈ news, u.oneCell' = true)
  (hbytes : (n + m) * bytes <= 140737488355328) (hb : 0 < bytes)
  (h : ∀ v' w', w'.ownsRow 0 e size v' (n + m) (xs ++ news) -> w.grownBy w' v.ownBlock -> (∀ k, v'.ownBlock = some k -> v.ownBlock = some k ∨ w.heap.size <= k) -> wpList P ops Q rest (act.put o.dst v') w') : wpList P ops Q (o :: rest) act w :=
 wpList_plain hgd fun _ hK => wp_app s x t ho e size bytes z ht hi hzs hsz v n xs hs hown a m c news hx hl hnews h1 hbytes hb fun v' w' h2 h3 h4 => hK _ _ (h v' w' h2 h3 h4)
end Go.Proofs.YthfobaeafapbnaaDoor.Disk
namespace Go.Proofs.YthfobaeafapbnaaDoor.Disk.Plain
end Go.Proofs.YthfobaeafapbnaaDoor.Disk.Plain
namespace Go.Proofs.YthfobaeafapbnaaDoor.Disk
open Go.RowKit Go.Proofs.YthfobaeafapbnaaDoor.Plain Go.Proofs.YthfobaeafapbnaaDoor.Disk.Plain
theorem At.cells {w : World} {D P : Nat} {uv ov : Value} {d : Dk} (h : At w D P uv ov d) :
  w.cell? ⟨D, 0, none⟩ = some (.slice (some ⟨P, 0, none⟩) d.n d.n) /\ w.cell? ⟨D, 1, none⟩ = some uv /\ w.cell? ⟨D, 2, none⟩ = some ov /\
   w.cell? ⟨D, 3, none⟩ = some (.bool d.down) /\ w.cell? ⟨D, 4, none⟩ = some (.bool d.st) /\ w.cell? ⟨D, 5, none⟩ = some (.int .i64 d.left) /\ ∀ k, w.frozen? ⟨D, k, none⟩ = false := by
 refine ⟨?_, ?_, ?_, ?_, ?_, ?_, fun k => frozen_of_row w D k _ _ h.hd⟩ <;> (rw [cell_of_row _ _ _ _ _ _ h.hd]; rfl)
theorem At.put {w w' : World} {D P : Nat} {uv ov : Value} {d : Dk} (h : At w D P uv ov d) (b s : Bool) (l : Int) (hs : ∀ k, k ≠ D -> w'.heap[k]? = w.heap[k]?)
  (hd : w'.heap[D]? = some (.cells #[.slice (some ⟨P, 0, none⟩) d.n d.n, uv, ov, .bool b, .bool s, .int .i64 l] 76 (0, 0))) : At w' D P uv ov { d with down := b, st := s, left := l } := by
 obtain ⟨cs, h1, h2⟩ := h.hp
 exact ⟨hd, ⟨cs, by rw [hs P (Ne.symm h.neP)]; exact h1, h2⟩, h.hpl, h.hn, own_same h.hu (fun k hk => hs k (fun e => h.neU.1 (by rw [hk, e]))), h.huw, own_same h.ho (fun k hk => hs k (fun e => h.neO.1 (by rw [hk, e]))), h.neP, h.neU, h.neO, h.neUO⟩
theorem turned_set {fp : Nat -> Prop} {w0 w : World} {D k : Nat} (h : Turned fp w0 w) (hf : fp D) (v : Value) : Turned fp w0 (w.setCell ⟨D, k, none⟩ v) :=
 ⟨h.os, h.tape, h.output, by simpa using h.size, fun j hj hn => by
  rw [heap_setCell_other w ⟨D, k, none⟩ j _ (fun e => hn (by have e' : D = j := e.symm; rw [<- e']; exact hf))]
  exact h.block j hj hn⟩
theorem ne_blk {x : Value} {k D : Nat} (h : x.ownBlock ≠ some D) (hk : x.ownBlock = some k) : k ≠ D := fun e => h (by rw [hk, e])
theorem At.noted {w w1 w2 : World} {D P : Nat} {uv ov v' : Value} {d : Dk} (h : At w D P uv ov d) (x : Int × Int) (hb : Below w.heap.size w w1) (ho : w2.ownsRow 0 131 2 v' (d.ops.length + 1) (ocs d.ops ++ oc x)) (hg : w1.grownBy w2 ov.ownBlock)
  (hv : ∀ k, v'.ownBlock = some k -> ov.ownBlock = some k ∨ w1.heap.size <= k) (hh : w2.heap[D]? = w.heap[D]?) :
  At (w2.setCell ⟨D, 2, none⟩ v') D P uv v' { d with ops := d.ops ++ [x] } /\ Turned (foot D P uv ov) w (w2.setCell ⟨D, 2, none⟩ v') /\ ∀ k, foot D P uv v' k -> foot D P uv ov k ∨ w.heap.size <= k := by
 obtain ⟨cs, h1, h2⟩ := h.hp
 have hlt := h.lt
 have hle := hb.size
 have hv' : ∀ k, v'.ownBlock = some k -> ov.ownBlock = some k ∨ w.heap.size <= k := fun k hk => (hv k hk).imp id (fun h => by omega)
 have same : ∀ k, k < w.heap.size -> k ≠ D -> ov.ownBlock ≠ some k -> (w2.setCell ⟨D, 2, none⟩ v').heap[k]? = w.heap[k]? := fun k hk hne hno => by
  rw [heap_setCell_other w2 ⟨D, 2, none⟩ k _ hne, hg.block k (by omega) (Ne.symm hno), hb.block k hk]
 have hD : (w2.setCell ⟨D, 2, none⟩ v').heap[D]? = _ := heap_setCell_same w2 D 2 _ _ v' (hh.trans h.hd)
 have nD : v'.ownBlock ≠ some D := fun e => (hv' D e).elim h.neO.1 (fun hl => by have := hlt D (.inl rfl); omega)
 have nP : v'.ownBlock ≠ some P := fun e => (hv' P e).elim h.neO.2 (fun hl => by have := hlt P (.inr (.inl rfl)); omega)
 refine ⟨⟨hD, ⟨cs, ?_, h2⟩, h.hpl, h.hn, own_same h.hu (fun k hk => ?_), h.huw, ?_, h.neP, h.neU, ⟨nD, nP⟩, ?_⟩, ⟨?_, ?_, ?_, ?_, fun k hk hn => ?_⟩, ?_⟩
 ·rw [same P (hlt P (.inr (.inl rfl))) (Ne.symm h.neP) h.neO.2]; exact h1
 ·refine same k (hlt k (.inr (.inr (.inl hk)))) (ne_blk h.neU.1 hk) (fun e => ?_)
  rcases h.neUO with hn | hn
  ·rw [hn] at hk; cases hk
  ·exact hn (by rw [hk, e])
 ·rw [ocs_snoc, List.length_append, List.length_singleton]
  exact own_same ho (fun k hk => heap_setCell_other w2 ⟨D, 2, none⟩ k _ (ne_blk nD hk))
 ·cases hu : uv.ownBlock with
  | none => exact .inl rfl
  | some u =>
   refine .inr (fun e => ?_)
   rcases hv' u e.symm with h5 | h5
   ·rcases h.neUO with hn | hn
    ·rw [hn] at hu; cases hu
    ·exact hn (by rw [hu, h5])
   ·have := hlt u (.inr (.inr (.inl hu))); omega
 ·exact hg.os.trans hb.os
 ·exact hg.tape.trans hb.tape
 ·exact hg.output.trans hb.output
 ·have := hg.size; simp; omega
 ·exact same k hk (fun e => hn (.inl e)) (fun e => hn (.inr (.inr (.inr e))))
 ·rintro k (rfl | rfl | hk | hk)
  ·exact .inl (.inl rfl)
  ·exact .inl (.inr (.inl rfl))
  ·exact .inl (.inr (.inr (.inl hk)))
  ·exact (hv' k hk).imp (fun h => .inr (.inr (.inr h))) id
def rdy (d : Dk) : Int := if d.down then 13 else 0
theorem ready_any (w : World) (D P : Nat) (uv ov : Value) (d : Dk) (h : At w D P uv ov d) :
  Calls Tryd.prog 57 #[.pointer (some ⟨D, 0, none⟩)] w fun e w' => e = .returned (.int .i64 (rdy d)) /\ w = w' := by
 obtain ⟨-, -, -, c3, -, -, -⟩ := h.cells
 have E : Box (rdy d = if d.down then 13 else 0) := ⟨rfl⟩
 clear h
 go_enter Tryd.func57, Tryd.ntmps57
 go_wp2
 ·rename_i hb
  go_ret
  exact ⟨by rw [E.out, hb]; rfl, rfl⟩
 ·rename_i hb
  go_ret
  exact ⟨by rw [E.out, hb]; rfl, rfl⟩
def hsp (d : Dk) (i : Int) : Bool := decide (0 <= i /\ i < (d.n : Int))
set_option maxHeartbeats 1000000 in
theorem has_any (w : World) (D P : Nat) (uv ov : Value) (d : Dk) (h : At w D P uv ov d) (i : Int) :
  Calls Tryd.prog 75 #[.pointer (some ⟨D, 0, none⟩), .int .i64 i] w fun e w' => e = .returned (.bool (hsp d i)) /\ w = w' := by
 obtain ⟨c0, -, -, -, -, -, -⟩ := h.cells
 have E : Box (hsp d i = decide (0 <= i /\ i < (d.n : Int))) := ⟨rfl⟩
 clear h
 go_enter Tryd.func75, Tryd.ntmps75
 by_cases h0 : 0 <= i
 ·go_wp2
  go_ret
  exact ⟨by rw [E.out]; simp [h0], rfl⟩
 ·have h0' : decide (0 <= i) = false := by simpa using h0
  go_wp2
  go_ret
  exact ⟨by rw [E.out]; symm; simp; omega, rfl⟩
def fit (d : Dk) (i : Int) (len : Nat) : Int := if hsp d i then (if len = 192 then 0 else 1) else 12
set_option maxHeartbeats 1000000 in
theorem fits_any (w : World) (D P : Nat) (uv ov : Value) (d : Dk) (h : At w D P uv ov d) (i : Int) (a : Option Addr) (len cap : Nat) :
  Calls Tryd.prog 58 #[.pointer (some ⟨D, 0, none⟩), .int .i64 i, .slice a len cap] w fun e w' => e = .returned (.int .i64 (fit d i len)) /\ w = w' := by
 have E : Box (fit d i len = if hsp d i then (if len = 192 then 0 else 1) else 12) := ⟨rfl⟩
 have H := has_any w D P uv ov d h i
 generalize hsp d i = b at H E
 have HB : Box (Calls Tryd.prog 75 #[.pointer (some ⟨D, 0, none⟩), .int .i64 i] w fun e w' => e = .returned (.bool b) /\ w = w') := ⟨H⟩
 clear h H
 go_enter Tryd.func58, Tryd.ntmps58
 cases b
 ·go_wp2_with (go_at_call 75; refine HB.out.mono ?_; rintro e w' ⟨rfl, rfl⟩)
  go_ret
  exact ⟨by rw [E.out]; rfl, rfl⟩
 ·by_cases hl : len = 192
  ·subst hl
   go_wp2_with (go_at_call 75; refine HB.out.mono ?_; rintro e w' ⟨rfl, rfl⟩)
   go_ret
   exact ⟨by rw [E.out]; rfl, rfl⟩
  ·have hl' : ((len : Int) == 192) = false := by simp; omega
   go_wp2_with (go_at_call 75; refine HB.out.mono ?_; rintro e w' ⟨rfl, rfl⟩)
   go_ret
   exact ⟨by rw [E.out]; simp [hl], rfl⟩
theorem size_any (w : World) (D P : Nat) (uv ov : Value) (d : Dk) (h : At w D P uv ov d) :
  Calls Tryd.prog 20 #[.pointer (some ⟨D, 0, none⟩)] w fun e w' => e = .returned (.int .i64 (d.n : Int)) /\ w = w' := by
 obtain ⟨c0, -, -, -, -, -, -⟩ := h.cells
 clear h
 go_enter Tryd.func20, Tryd.ntmps20
 go_wp2
 go_ret
 exact ⟨rfl, rfl⟩
theorem own_form2 {w : World} {base n : Nat} {e : TypeId} {sz : Nat} {v : Value} {xs : List Value} (h : w.ownsRow base e sz v n xs) : ∃ a cap, v = .slice a n cap := by
 rcases h.2 with ⟨rfl, rfl⟩ | ⟨g, cap, cur, rfl, _⟩
 ·exact ⟨_, _, rfl⟩
 ·exact ⟨_, _, rfl⟩
theorem pending_any (w : World) (D P : Nat) (uv ov : Value) (d : Dk) (h : At w D P uv ov d) :
  Calls Tryd.prog 18 #[.pointer (some ⟨D, 0, none⟩)] w fun e w' => e = .returned (.int .i64 (d.uw.length : Int)) /\ w = w' := by
 obtain ⟨-, c1, -, -, -, -, -⟩ := h.cells
 obtain ⟨a, cap, rfl⟩ := own_form2 h.hu
 clear h
 go_enter Tryd.func18, Tryd.ntmps18
 go_wp2
 go_ret
 exact ⟨rfl, rfl⟩
theorem info75 : (Tryd.prog.info? 131).map (fun i => (i.zero, i.size, i.bytes)) = some (some (.agg (oc (0, 0)).toArray), 2, 16) := by kernel_rfl
theorem news_new (w : World) (cs : List Value) (e : TypeId) : ∀ j u, cs[j]? = some u -> (w.alloc (.cells cs.toArray e)).cell? ((⟨w.heap.size, 0, none⟩ : Addr).add j) = some u := by
 intro j u hj
 rw [Addr.add_lit, Nat.zero_add, cell_of_row _ _ _ _ _ _ (al_at rfl)]
 simpa using hj
theorem At.after {w w2 : World} {D P : Nat} {uv ov : Value} {d : Dk} (h : At w D P uv ov d) (o : Obj) (row : Option Nat) (hr : row ≠ some D) (hg : (w.alloc o).grownBy w2 row) : w2.heap[D]? = w.heap[D]? := by
 have hl := h.lt D (.inl rfl)
 rw [hg.block D (by simp; omega) (Ne.symm hr), Below.heap_alloc w o D hl]
set_option maxHeartbeats 1000000 in
theorem note_at (w : World) (D P : Nat) (uv ov : Value) (d : Dk) (h : At w D P uv ov d) (k i : Int) (hl : d.ops.length < 1000000000) :
  Calls Tryd.prog 59 #[.pointer (some ⟨D, 0, none⟩), .int .i64 k, .int .i64 i] w fun e w' =>
   e = .returned (.tuple #[]) /\ ∃ ov', At w' D P uv ov' { d with ops := d.ops ++ [(k, i)] } /\ Turned (foot D P uv ov) w w' /\ ∀ k, foot D P uv ov' k -> foot D P uv ov k ∨ w.heap.size <= k := by
 obtain ⟨-, -, c2, -, -, -, fz⟩ := h.cells
 have f2 := fz 2
 have HA : Box (At w D P uv ov d) := ⟨h⟩
 have HL : Box ((d.ops.length + 1) * 16 <= 140737488355328) := ⟨by omega⟩
 clear h fz hl
 go_enter Tryd.func59, Tryd.ntmps59
 go_wp2_with (at_builtin; refine wpList_app2 rfl _ _ 74 rfl 131 2 16 (.agg (oc (0, 0)).toArray) Tryd.underlying74 info75 rfl (by decide) ov d.ops.length (ocs d.ops) rfl (HA.out.ho.alloc _) ⟨w.heap.size, 0, none⟩ 1 1 (oc (k, i)) rfl rfl (news_new w (oc (k, i)) _) (one_oc _) HL.out (by decide) ?_; intro v' w2 hown hgr hblk; obtain ⟨a', cap', rfl⟩ := own_form2 hown; have HD := HA.out.after _ _ HA.out.neO.1 hgr; have c2' : w2.cell? ⟨D, 2, none⟩ = some ov := (World.cell?_of_block HD).trans c2; have f2' : w2.frozen? ⟨D, 2, none⟩ = false := (World.frozen?_of_block HD).trans f2; have HN : Box _ := ⟨HA.out.noted (k, i) ((Below.refl _ w).alloc (Nat.le_refl _) _) hown hgr hblk HD⟩; clear hown hgr hblk HD)
 go_end0
 exact ⟨rfl, _, HN.out⟩
theorem At.nx_put {w w' : World} {D P : Nat} {uv ov : Value} {d : Dk} {fp : Nat -> Prop} (h : At w D P uv ov d) (h2 : ∀ k, foot D P uv ov k -> fp k) (b s : Bool) (l : Int) (t : Turned fp w w') (hs : ∀ k, k ≠ D -> w'.heap[k]? = w.heap[k]?)
  (hd : w'.heap[D]? = some (.cells #[.slice (some ⟨P, 0, none⟩) d.n d.n, uv, ov, .bool b, .bool s, .int .i64 l] 76 (0, 0))) : Nx D fp w w' { d with down := b, st := s, left := l } :=
 ⟨fp, ⟨P, uv, ov, h.put b s l hs hd, h2⟩, t, fun _ hk => .inl hk⟩
theorem At.set45 {w : World} {D P : Nat} {uv ov : Value} {d : Dk} {fp : Nat -> Prop} (h : At w D P uv ov d) (h2 : ∀ k, foot D P uv ov k -> fp k) (s : Bool) (l : Int) : Nx D fp w ((w.setCell ⟨D, 4, none⟩ (.bool s)).setCell ⟨D, 5, none⟩ (.int .i64 l)) { d with st := s, left := l } :=
 h.nx_put h2 d.down s l (turned_set (turned_set (Turned.refl _ _) (h2 D (.inl rfl)) _) (h2 D (.inl rfl)) _) (fun k hk => by rw [heap_setCell_other _ ⟨D, 5, none⟩ k _ hk, heap_setCell_other _ ⟨D, 4, none⟩ k _ hk])
  (heap_setCell_same _ D 5 _ _ _ (heap_setCell_same w D 4 _ _ _ h.hd))
theorem At.set3 {w : World} {D P : Nat} {uv ov : Value} {d : Dk} {fp : Nat -> Prop} (h : At w D P uv ov d) (h2 : ∀ k, foot D P uv ov k -> fp k) (b : Bool) : Nx D fp w (w.setCell ⟨D, 3, none⟩ (.bool b)) { d with down := b } :=
 h.nx_put h2 b d.st d.left (turned_set (Turned.refl _ _) (h2 D (.inl rfl)) _) (fun k hk => by rw [heap_setCell_other _ ⟨D, 3, none⟩ k _ hk]) (heap_setCell_same w D 3 _ _ _ h.hd)
theorem foot_head {D P : Nat} {uv ov : Value} : foot D P uv ov D := .inl rfl
set_option maxHeartbeats 1000000 in
theorem stop_any (w : World) (D : Nat) (fp : Nat -> Prop) (d : Dk) (h : Is w D fp d) (i : Int) :
  Calls Tryd.prog 26 #[.pointer (some ⟨D, 0, none⟩), .int .i64 i] w fun e w' => e = .returned (.tuple #[]) /\ Nx D fp w w' { d with st := decide (0 <= i), left := max i 0 } := by
 obtain ⟨P, uv, ov, h1, h2⟩ := h
 obtain ⟨-, -, -, -, c4, c5, fz⟩ := h1.cells
 have f4 := fz 4
 have f5 := fz 5
 have HA : Box (At w D P uv ov d) := ⟨h1⟩
 have HF : Box (fp D) := ⟨h2 D foot_head⟩
 have H2 : Box (∀ k, foot D P uv ov k -> fp k) := ⟨h2⟩
 clear h1 h2 fz
 go_enter Tryd.func26, Tryd.ntmps26
 go_wp2
 ·go_end0
  rw [show max i 0 = 0 by omega]
  exact ⟨rfl, HA.out.set45 H2.out _ _⟩
 ·go_end0
  rw [show max i 0 = i by omega]
  exact ⟨rfl, HA.out.set45 H2.out _ _⟩
end Go.Proofs.YthfobaeafapbnaaDoor.Disk
namespace Go.Proofs.YthfobaeafapbnaaDoor.Disk.Plain
end Go.Proofs.YthfobaeafapbnaaDoor.Disk.Plain
namespace Go.Proofs.YthfobaeafapbnaaDoor.Disk
open Go.RowKit Go.Proofs.YthfobaeafapbnaaDoor.Plain Go.Proofs.YthfobaeafapbnaaDoor.Disk.Plain
theorem exec_make {P : Program} {o : Oper} {ρ : Operand -> Value} {w : World} (t e : TypeId) (l c : Operand) (ho : o.op = .makeSlice t l c) (z : Value) (size bytes : Nat) (ht : P.underlying t = some (.slice e)) (hi : (P.info? e).map (fun i => (i.zero, i.size, i.bytes)) = some (some z, size, bytes))
  (n : Nat) (hl : ρ l = .int .i64 (n : Int)) (hc : ρ c = .int .i64 (n : Int)) (hb : bytes * n <= 281474976710656) (h63 : n <= 9223372036854775807) :
  (execOp ρ o).run P w = .ok (.value (.slice (some ⟨w.heap.size, 0, none⟩) n n)) (w.alloc (.cells (madeCells z.cells (n * size)) e)) := by
 obtain ⟨i, hi1, hz, rfl, rfl⟩ := info_parts hi
 have hb' : (i.bytes : Int) * (n : Int) <= 281474976710656 := by
  have h : ((i.bytes * n : Nat) : Int) <= 281474976710656 := by omega
  rwa [Int.natCast_mul] at h
 have hr := run_make (P := P) w t e i z ht hi1 hz .i64 .i64 n n (by omega) (Int.le_refl _) hb' (by omega)
 unfold execOp
 simp only [ho, hl, hc, hr, Sem.run_bind, Sem.run_pure, Result.andThen_ok, Int.toNat_natCast]
theorem made_at (z : Array Value) (n i : Nat) (v : Value) (hi : i < n) (hz : 0 < z.size) (h : ∀ j, j < z.size -> z[j]? = some v) : (madeCells z n)[i]? = some v := by
 have h1 : i % z.size < z.size := Nat.mod_lt _ hz
 have h2 := h _ h1
 rw [Array.getElem?_eq_getElem h1] at h2
 simp only [Option.some.injEq] at h2
 simp [madeCells, hi, h1, h2]
theorem size_made (z : Array Value) (n : Nat) : (madeCells z n).size = n := by simp [madeCells]
theorem zero_at (n j : Nat) (h : j < n) : (u8s (List.replicate n 0))[j]? = some (.int .u8 0) := by simp [u8s, h]
theorem made_pls (n : Nat) : Pls (madeCells (u8s (z192)) (n * 192)) n (fun _ => z192) := by
 refine ⟨by rw [size_made, Nat.mul_comm], fun i hi j hj => ?_⟩
 have e : z192.getD j 0 = 0 := getD_z192 j
 rw [e]
 refine made_at _ _ _ _ ?_ (by rw [size_u8s, length_z192]; omega) (fun j hj => zero_at 192 j (by rw [size_u8s, length_z192] at hj; exact hj))
 have : 192 * i + 192 <= 192 * n := by rw [<- Nat.mul_succ]; exact Nat.mul_le_mul_left _ hi
 omega
theorem one_zero : ∀ j, j < (#[.int .u8 0] : Array Value).size -> (#[.int .u8 0] : Array Value)[j]? = some (.int .u8 0) := by
 intro j hj
 have : j = 0 := by simp at hj; omega
 subst this
 rfl
theorem made_bytes (n : Nat) : madeCells #[.int .u8 0] n = u8s (List.replicate n 0) := by
 apply Array.ext
 ·rw [size_made, size_u8s, List.length_replicate]
 ·intro i h1 h2
  have hi : i < n := by rw [size_made] at h1; exact h1
  have a1 := made_at #[.int .u8 0] n i (.int .u8 0) hi (by decide) (one_zero)
  have a2 := zero_at n i hi
  rw [Array.getElem?_eq_getElem h1] at a1
  rw [Array.getElem?_eq_getElem h2] at a2
  simp only [Option.some.injEq] at a1 a2
  rw [a1, a2]
theorem info79b : (Tryd.prog.info? 121).map (fun i => (i.zero, i.size, i.bytes)) = some (some (.agg (u8s (z192))), 192, 192) := by kernel_rfl
def dk0 (n : Nat) : Dk := ⟨n, fun _ => z192, [], [], false, false, 0⟩
theorem at_new (w : World) (n : Nat) (hn : 1 <= n /\ n <= 4096) :
  At ((w.alloc (.cells (madeCells (u8s (z192)) (n * 192)) 121)).alloc (.cells #[.slice (some ⟨w.heap.size, 0, none⟩) n n, .slice none 0 0, .slice none 0 0, .bool false, .bool false, .int .i64 0] 76)) (w.heap.size + 1) w.heap.size (.slice none 0 0) (.slice none 0 0) (dk0 n) :=
 ⟨al_at (by simp), ⟨_, al_old (al_at rfl), made_pls n⟩, fun _ => ⟨length_z192, byt_z192⟩, hn, World.ownsRow_nil _ _ _ _, fun x hx => by simp [dk0] at hx, World.ownsRow_nil _ _ _ _, by omega, by simp [Value.ownBlock], by simp [Value.ownBlock], .inl rfl⟩
theorem made_foot (s : Nat) (k : Nat) (h : foot (s + 1) s (.slice none 0 0) (.slice none 0 0) k) : s <= k := by
 rcases h with rfl | rfl | h | h
 ·omega
 ·omega
 ·simp [Value.ownBlock] at h
 ·simp [Value.ownBlock] at h
set_option maxHeartbeats 1000000 in
theorem new_any (w : World) (n : Nat) (hn : 1 <= n /\ n <= 4096) : Calls Tryd.prog 5 #[.int .i64 (n : Int)] w fun e w' => e = .returned (.tuple #[.pointer (some ⟨w.heap.size + 1, 0, none⟩), .int .i64 0]) /\ Is w' (w.heap.size + 1) (fun k => w.heap.size <= k) (dk0 n) /\ Below w.heap.size w w' := by
 have H : Box _ := ⟨at_new w n hn⟩
 have HX : Box (192 * n <= 281474976710656 /\ n <= 9223372036854775807) := ⟨by omega, by omega⟩
 have h1 : decide ((n : Int) < 1) = false := by simp; omega
 have h2 : decide (4096 < (n : Int)) = false := by simp; omega
 clear hn
 go_enter Tryd.func5, Tryd.ntmps5
 go_wp2_with (refine wpList_run rfl _ _ (exec_make 72 121 _ _ rfl (.agg (u8s (z192))) 192 192 Tryd.underlying72 info79b n rfl rfl HX.out.1 HX.out.2) ?_)
 go_ret2
 exact ⟨rfl, ⟨_, _, _, H.out, made_foot _⟩, ((Below.refl _ w).alloc (Nat.le_refl _) _).alloc (by simp) _⟩
end Go.Proofs.YthfobaeafapbnaaDoor.Disk
namespace Go.Proofs.YthfobaeafapbnaaDoor.Disk.Plain
end Go.Proofs.YthfobaeafapbnaaDoor.Disk.Plain
namespace Go.Proofs.YthfobaeafapbnaaDoor.Disk
open Go.RowKit Go.Shelf Go.Proofs.YthfobaeafapbnaaDoor.Plain Go.Proofs.YthfobaeafapbnaaDoor.Disk.Plain
attribute [local go_sem] Oper.semAt_some
def Ways (n₀ : Nat) (W : World) (a : Option Addr) (L : List (Nat × List Int)) : Prop := 0 < L.length -> ∃ b, a = some ⟨b, 0, none⟩ /\ b < n₀ /\ ∀ k (h : k < L.length), W.rangeAt b (k * 193) (wc L[k])
end Go.Proofs.YthfobaeafapbnaaDoor.Disk
