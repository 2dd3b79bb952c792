/-
 What is read of a disk behind writes, a flush and a crash; the document's example of layer 6. And what follows it.
-/
import Derived.Test.YthfobaeafapbnaaDoorQ11
import Derived.Laws.ResultCell
import Derived.Laws.Tables
set_option linter.unusedVariables false
set_option maxRecDepth 100000
namespace Go.Proofs.YthfobaeafapbnaaDoor.Disk.Plain
end Go.Proofs.YthfobaeafapbnaaDoor.Disk.Plain
namespace Go.Proofs.YthfobaeafapbnaaDoor.Disk
open Go.RowKit Go.Proofs.YthfobaeafapbnaaDoor.Plain Go.Proofs.YthfobaeafapbnaaDoor.Disk.Plain
theorem lastOf_snoc (L : List (Nat × List Int)) (x : Nat × List Int) (j : Nat) : lastOf (L ++ [x]) j = if x.1 = j then some x.2 else lastOf L j := by
 unfold lastOf
 rw [List.reverse_append]
 simp only [List.reverse_cons, List.reverse_nil, List.nil_append, List.cons_append, List.find?_cons]
 by_cases h : x.1 = j
 ·simp [h]
 ·have : (x.1 == j) = false := by simpa using h
  simp [this, h]
theorem snoc_ind {α : Type} {p : List α -> Prop} (L : List α) (nil : p []) (snoc : ∀ L x, p L -> p (L ++ [x])) : p L := by
 have : ∀ R : List α, p R.reverse := fun R => by
  induction R with
  | nil => exact nil
  | cons x R ih => rw [List.reverse_cons]; exact snoc _ _ ih
 have h := this L.reverse
 rwa [List.reverse_reverse] at h
theorem lay_get (L : List (Nat × List Int)) (pl : Nat -> List Int) (j : Nat) : lay L pl j = (lastOf L j).getD (pl j) := by
 refine snoc_ind (p := fun L => lay L pl j = (lastOf L j).getD (pl j)) L rfl (fun L x ih => ?_)
 show lay (L ++ [x]) pl j = (lastOf (L ++ [x]) j).getD (pl j)
 rw [lay_snoc, lastOf_snoc, upd]
 by_cases h : j = x.1
 ·rw [if_pos h, if_pos h.symm]; rfl
 ·rw [if_neg h, if_neg (Ne.symm h)]; exact ih
def b7 : List Int := z192.set 0 7
def a1 : Dk := wrOk (dk0 2) 1 b7
def a2 : Dk := rdOk a1 1
def a3 : Dk := crOk a2 []
def a4 : Dk := rdOk a3 1
end Go.Proofs.YthfobaeafapbnaaDoor.Disk
namespace Go.Proofs.YthfobaeafapbnaaDoor.Disk.Plain
end Go.Proofs.YthfobaeafapbnaaDoor.Disk.Plain
namespace Go.Proofs.YthfobaeafapbnaaDoor.Disk
open Go.RowKit Go.Proofs.YthfobaeafapbnaaDoor.Plain Go.Proofs.YthfobaeafapbnaaDoor.Disk.Plain
structure Rd where
 n : Nat
 done : List (Nat × List Int)
 way : List (Nat × List Int)
 left : Int
 down : Bool
 ops : List (Int × Int)
def rc (x : Nat × List Int) : List Value := [.int .i64 (x.1 : Int), .string (strOfNums x.2)]
def rcs (L : List (Nat × List Int)) : List Value := (L.map rc).flatten
theorem rcs_snoc (L : List (Nat × List Int)) (x : Nat × List Int) : rcs (L ++ [x]) = rcs L ++ rc x := by simp [rcs]
theorem rcs_all (L : List (Nat × List Int)) : ∀ x ∈ L.map rc, x.length = 2 := by
 intro x hx
 obtain ⟨y, hy, rfl⟩ := List.mem_map.1 hx
 rfl
theorem one_rc (x : Nat × List Int) : ∀ u ∈ rc x, u.oneCell' = true := by
 intro u hu
 simp only [rc, List.mem_cons, List.not_mem_nil, or_false] at hu
 rcases hu with rfl | rfl <;> rfl
theorem one_rcs (L : List (Nat × List Int)) : ∀ u ∈ rcs L, u.oneCell' = true := fun u hu => by
 obtain ⟨l, hl, hu⟩ := List.mem_flatten.1 hu
 obtain ⟨x, _, rfl⟩ := List.mem_map.1 hl
 exact one_rc x u hu
theorem one_ocs (L : List (Int × Int)) : ∀ u ∈ ocs L, u.oneCell' = true := fun u hu => by
 obtain ⟨l, hl, hu⟩ := List.mem_flatten.1 hu
 obtain ⟨x, _, rfl⟩ := List.mem_map.1 hl
 exact one_oc x u hu
theorem size_str (B : List Int) : (strOfNums B).size = B.length := by simp [strOfNums, ByteArray.size]
def Rw (w : World) (v : Value) (L : List (Nat × List Int)) : Prop := w.ownsRow 0 126 2 v L.length (rcs L)
def Ro (w : World) (v : Value) (L : List (Int × Int)) : Prop := w.ownsRow 0 166 2 v L.length (ocs L)
theorem own_below {w w' : World} {e : TypeId} {sz n : Nat} {v : Value} {xs : List Value} (h : w.ownsRow 0 e sz v n xs) (hb : Below w.heap.size w w') : w'.ownsRow 0 e sz v n xs := own_same h (fun k hk => hb.block k (h.lt k hk).2)
theorem Rw.below {w w' : World} {v : Value} {L : List (Nat × List Int)} (h : Rw w v L) (hb : Below w.heap.size w w') : Rw w' v L := own_below h hb
theorem Ro.below {w w' : World} {v : Value} {L : List (Int × Int)} (h : Ro w v L) (hb : Below w.heap.size w w') : Ro w' v L := own_below h hb
theorem Rw.at_ {w : World} {v : Value} {L : List (Nat × List Int)} (h : Rw w v L) (h0 : 0 < L.length) : ∃ g cap, v = .slice (some ⟨g, 0, none⟩) L.length cap /\ g < w.heap.size /\ ∀ k (hk : k < L.length), w.cell? ⟨g, k * 2, none⟩ = some (.int .i64 (L[k].1 : Int)) /\ w.cell? ⟨g, k * 2 + 1, none⟩ = some (.string (strOfNums L[k].2)) := by
 rcases h.2 with ⟨_, h2⟩ | ⟨g, cap, cur, h1, _, hg, _⟩
 ·omega
 ·refine ⟨g, cap, h1, (Array.getElem?_eq_some_iff.1 hg).1, fun k hk => ?_⟩
  have hh : ∀ j u, (rcs L)[j]? = some u -> w.cell? ((⟨g, 0, none⟩ : Addr).add j) = some u := World.ownsRow.cells h (g := g) (by rw [h1]; rfl)
  have e : ∀ j, j < 2 -> (rcs L)[2 * k + j]? = (rc L[k])[j]? := fun j hj => by
   rw [rcs, flat_at _ 2 (rcs_all L) k (by simpa using hk) j hj]
   simp
  have a0 := hh (2 * k + 0) _ (by rw [e 0 (by omega)]; rfl)
  have a1 := hh (2 * k + 1) _ (by rw [e 1 (by omega)]; rfl)
  rw [Addr.add_lit, Nat.zero_add] at a0 a1
  rw [Nat.mul_comm]
  exact ⟨a0, a1⟩
theorem lastOf_at (L : List (Nat × List Int)) (i k : Nat) (hk : k < L.length) (hp : L[k].1 = i) (h : ∀ q (hq : q < L.length), k < q -> L[q].1 ≠ i) : lastOf L i = some L[k].2 := by
 have e : L.reverse = (L.drop (k + 1)).reverse ++ L[k] :: (L.take k).reverse := by
  have : L = L.take k ++ (L[k] :: L.drop (k + 1)) := by rw [List.getElem_cons_drop, List.take_append_drop]
  conv => lhs; rw [this]
  rw [List.reverse_append, List.reverse_cons, List.append_assoc]
  rfl
 unfold lastOf
 rw [e, List.find?_append]
 have h1 : (L.drop (k + 1)).reverse.find? (fun x => x.1 == i) = none := by
  rw [List.find?_eq_none]
  intro x hx
  obtain ⟨j, hj, rfl⟩ := List.getElem_of_mem (List.mem_reverse.1 hx)
  have hj2 : k + 1 + j < L.length := by simp at hj; omega
  have := h (k + 1 + j) hj2 (by omega)
  simpa using this
 rw [h1]
 simp [hp]
theorem lastOf_no (L : List (Nat × List Int)) (i : Nat) (h : ∀ q (hq : q < L.length), L[q].1 ≠ i) : lastOf L i = none := by
 unfold lastOf
 rw [Option.map_eq_none_iff, List.find?_eq_none]
 intro x hx
 obtain ⟨j, hj, rfl⟩ := List.getElem_of_mem (List.mem_reverse.1 hx)
 simpa using h j hj
def lst (L : List (Nat × List Int)) (i : Nat) : Value := match lastOf L i with
 | some B => .tuple #[.string (strOfNums B), .bool true]
 | none => .tuple #[.string ByteArray.empty, .bool false]
set_option maxRecDepth 20000 in
set_option maxHeartbeats 2000000 in
theorem rlast_any (w : World) (v : Value) (L : List (Nat × List Int)) (i : Nat) (h : Rw w v L) (hl : L.length < 1000000) :
  Calls Tryd.prog 70 #[v, .int .i64 (i : Int)] w fun e w' => e = .returned (lst L i) /\ w = w' := by
 obtain ⟨a, cap, rfl⟩ := own_form2 h
 have H : Box (Rw w (.slice a L.length cap) L) := ⟨h⟩
 have hw1 : IntKind.i64.wrap ((L.length : Int) - 1) = (L.length : Int) - 1 := by rw [IntKind.wrap_i64]; omega
 clear h
 go_enter Tryd.func70, Tryd.ntmps70
 go_wp2
 go_loopw [6] (fun j wr => ∃ k : Nat, k <= L.length /\ j = .int .i64 ((L.length : Int) - 1 - k) /\ Box (wr = w /\ ∀ q (hq : q < L.length), L.length - 1 - k < q ∨ k = L.length -> L[q].1 ≠ i)) (fun j _ => (intOf j + 1).toNat)
 case atStart => exact ⟨0, Nat.zero_le _, by simp, ⟨rfl, fun q hq h => by omega⟩⟩
 case round =>
  obtain ⟨k, hk, rfl, HI⟩ := hrel
  obtain ⟨rfl, hne⟩ := HI.out
  have HNe : Box (∀ q (hq : q < L.length), L.length - 1 - k < q ∨ k = L.length -> L[q].1 ≠ i) := ⟨hne⟩
  clear hne HI
  by_cases hlt : k < L.length
  ·have hq : L.length - 1 - k < L.length := by omega
   obtain ⟨g, c, ev, hg, hc⟩ := H.out.at_ (by omega)
   simp only [Value.slice.injEq, true_and] at ev
   obtain ⟨rfl, rfl⟩ := ev
   obtain ⟨c0, c1⟩ := hc _ hq
   have hw2 : IntKind.i64.wrap (((L.length - 1 - k : Nat) : Int) - 1) = ((L.length - 1 - k : Nat) : Int) - 1 := by rw [IntKind.wrap_i64]; omega
   rw [show ((L.length : Int) - 1 - k) = ((L.length - 1 - k : Nat) : Int) by omega]
   have HA : Box (L[L.length - 1 - k].1 = i -> lastOf L i = some L[L.length - 1 - k].2) := ⟨fun hp => lastOf_at L i _ hq hp (fun q h1 h2 => HNe.out q h1 (.inl h2))⟩
   have hqe : Box (L.length - 1 - k + k + 1 = L.length) := ⟨by omega⟩
   have HNx : Box (L[L.length - 1 - k].1 ≠ i -> ∀ q (hq : q < L.length), L.length - 1 - (k + 1) < q ∨ k + 1 = L.length -> L[q].1 ≠ i) := ⟨fun hp q h1 h2 => by
    by_cases e : q = L.length - 1 - k
    ·subst e; exact hp
    ·exact HNe.out q h1 (.inl (by omega))⟩
   generalize L[L.length - 1 - k] = x at c0 c1 HA HNx
   generalize L.length - 1 - k = q at *
   clear hc HNe
   by_cases hp : x.1 = i
   ·have hpi : ((x.1 : Int) == (i : Int)) = true := by simp [hp]
    have HL : Box (lst L i = .tuple #[.string (strOfNums x.2), .bool true]) := ⟨by rw [lst, HA.out hp]⟩
    clear HA HNx hp
    go_wp2
    go_ret2
    exact ⟨by rw [HL.out]; rfl, rfl⟩
   ·have hpi : ((x.1 : Int) == (i : Int)) = false := by
     have : ¬ ((x.1 : Int) = (i : Int)) := by omega
     simp [this]
    clear HA
    go_wp2
    exact ⟨⟨k + 1, by have := hqe.out; omega, by have := hqe.out; congr 1; omega, ⟨trivial, HNx.out hp⟩⟩, by simp [intOf]⟩
  ·obtain rfl : k = L.length := by omega
   have HL : Box (lst L i = .tuple #[.string ByteArray.empty, .bool false]) := ⟨by rw [lst, lastOf_no L i (fun q hq => HNe.out q hq (.inr rfl))]⟩
   have hneg : decide (0 <= (L.length : Int) - 1 - L.length) = false := by simp; omega
   clear HNe
   go_wp2
   go_ret2
   exact ⟨by rw [HL.out]; rfl, rfl⟩
theorem run_appv {P : Program} (w : World) (t ty e : TypeId) (z : Value) (size bytes : Nat) (ht : P.underlying t = some (.slice e)) (hi : (P.info? e).map (fun i => (i.zero, i.size, i.bytes)) = some (some z, size, bytes)) (hzs : z.cells.size = size) (hsz : 0 < size)
  (v u : Value) (n m : Nat) (xs ys : List Value) (hv : w.ownsRow 0 e size v n xs) (hu : w.ownsRow 0 e size u m ys) (h1 : ∀ c ∈ ys, c.oneCell' = true) (hb : 0 < bytes) (hbytes : (n + m) * bytes <= 140737488355328) :
  ∃ v' w', (Builtin.append_ #[t, t] ty #[v, u]).run P w = .ok v' w' /\ w'.ownsRow 0 e size v' (n + m) (xs ++ ys) /\ w.grownBy w' v.ownBlock /\ ∀ k, v'.ownBlock = some k -> v.ownBlock = some k ∨ w.heap.size <= k := by
 obtain ⟨i, hi1, hz, hsize, hby⟩ := info_parts hi
 have h63 : n + m <= maxLen := by
  have : (n + m) * 1 <= (n + m) * bytes := Nat.mul_le_mul_left _ hb
  unfold maxLen
  omega
 rcases hu.2 with ⟨rfl, rfl⟩ | ⟨g, cap, cur, rfl, _, hg, _⟩
 ·have hy : ys = [] := List.eq_nil_of_length_eq_zero (by simpa using hu.1)
  subst hy
  refine ⟨v, w, ?_, by simpa using hv, ⟨rfl, rfl, rfl, Nat.le_refl _, fun _ _ _ => rfl⟩, fun k hk => .inl hk⟩
  rcases hv.2 with ⟨rfl, rfl⟩ | ⟨g, cap', cur, rfl, _, _, hle, _⟩
  ·simp [Builtin.append_, run_underlying ht, sizeOf, typeInfo, hi1, Builtin.lenOf, Builtin.firstCells]
  ·simp [Builtin.append_, run_underlying ht, sizeOf, typeInfo, hi1, Builtin.lenOf, Builtin.firstCells, hle, storeCells]
 ·exact run_app w t ty e i z size bytes ht hi1 hz hsize hby hzs hsz v n xs hv ⟨g, 0, none⟩ m cap ys hu.1 (hu.cells (g := g) rfl) h1 h63 hbytes
theorem wpList_appv {P : Program} {ops : Array Oper} {rest : List Oper} {o : Oper} {act : Act} {w : World} {Q : Exit -> Act -> World -> Prop} (hgd : o.guard = none) (s x : Operand) (t : TypeId) (ho : o.op = .call { callee := .builtin .append, args := #[s, x], argTypes := #[t, t] })
  (e : TypeId) (size bytes : Nat) (z : Value) (ht : P.underlying t = some (.slice e)) (hi : (P.info? e).map (fun i => (i.zero, i.size, i.bytes)) = some (some z, size, bytes)) (hzs : z.cells.size = size) (hsz : 0 < size) (v u : Value) (n m : Nat) (xs ys : List Value) (hs : act.eval s = v) (hx : act.eval x = u) (hv : w.ownsRow 0 e size v n xs) (hu : w.ownsRow 0 e size u m ys)
  (h1 : ∀ c ∈ ys, c.oneCell' = true) (hb : 0 < bytes) (hbytes : (n + m) * bytes <= 140737488355328)
  (h : ∀ v' w', w'.ownsRow 0 e size v' (n + m) (xs ++ ys) -> w.grownBy w' v.ownBlock -> (∀ k, v'.ownBlock = some k -> v.ownBlock = some k ∨ w.heap.size <= k) -> wpList P ops Q rest (act.put o.dst v') w') : wpList P ops Q (o :: rest) act w := by
 refine wpList_plain hgd fun _ hK => ?_
 obtain ⟨v', w', hr, h2, h3, h4⟩ := run_appv (P := P) w t o.type e z size bytes ht hi hzs hsz v u n m xs ys hv hu h1 hb hbytes
 unfold Oper.wp execOp
 simp only [ho, resolve, invoke, builtin, Sem.run_bind, Sem.run_pure, Result.andThen_ok, List.map_toArray, List.map_cons, List.map_nil, hs, hx, hr]
 exact hK _ _ (h v' w' h2 h3 h4)
theorem infoW : (Tryd.prog.info? 126).map (fun i => (i.zero, i.size, i.bytes)) = some (some (.agg (rc (0, [])).toArray), 2, 24) := by kernel_rfl
theorem infoO : (Tryd.prog.info? 166).map (fun i => (i.zero, i.size, i.bytes)) = some (some (.agg (oc (0, 0)).toArray), 2, 16) := by kernel_rfl
end Go.Proofs.YthfobaeafapbnaaDoor.Disk
namespace Go.Proofs.YthfobaeafapbnaaDoor.Disk.Plain
end Go.Proofs.YthfobaeafapbnaaDoor.Disk.Plain
namespace Go.Proofs.YthfobaeafapbnaaDoor.Disk
open Go.RowKit Go.Proofs.YthfobaeafapbnaaDoor.Plain Go.Proofs.YthfobaeafapbnaaDoor.Disk.Plain
set_option maxRecDepth 20000 in
set_option maxHeartbeats 2000000 in
theorem rmore_any (w : World) (v : Value) (L : List (Nat × List Int)) (x : Nat × List Int) (h : Rw w v L) (hl : L.length < 1000000) :
  Calls Tryd.prog 48 #[v, .agg (rc x).toArray] w fun e w' => ∃ v', e = .returned v' /\ Rw w' v' (L ++ [x]) /\ Below w.heap.size w w' /\ ∀ k, v'.ownBlock = some k -> w.heap.size <= k := by
 obtain ⟨a, cap, rfl⟩ := own_form2 h
 have hb0 : Below w.heap.size w (w.alloc (.cells (rc x).toArray 126)) := (Below.refl _ _).alloc (Nat.le_refl _) _
 have H : Box (Rw (w.alloc (.cells (rc x).toArray 126)) (.slice a L.length cap) L /\ Below w.heap.size w (w.alloc (.cells (rc x).toArray 126)) /\ (w.alloc (.cells (rc x).toArray 126)).heap[w.heap.size]? = some (.cells (rc x).toArray 126 (0, 0)) /\ w.heap.size < (w.alloc (.cells (rc x).toArray 126)).heap.size) := ⟨h.below hb0, hb0, al_at rfl, by simp⟩
 have HB1 : Box ((0 + L.length) * 24 <= 140737488355328 /\ (L.length + 1) * 24 <= 140737488355328) := ⟨by omega, by omega⟩
 obtain ⟨S, HS⟩ : ∃ S, Box (w.heap.size = S) := ⟨_, ⟨rfl⟩⟩
 clear h hb0 hl
 go_enter Tryd.func48, Tryd.ntmps48
 go_upto_region 1 with fail
 rw [HS.out] at H ⊢
 generalize w.alloc (.cells (rc x).toArray 126) = w1 at H ⊢
 go_upto_region 3 with (at_builtin; refine wpList_appv rfl _ _ 33 rfl 126 2 24 (.agg (rc (0, [])).toArray) Tryd.underlying33 infoW rfl (by decide) (.slice none 0 0) (.slice a L.length cap) 0 L.length [] (rcs L) rfl rfl (World.ownsRow_nil _ _ _ _) H.out.1 (one_rcs L) (by decide) HB1.out.1 ?_; intro v2 w2 hown hgr hblk; rw [Nat.zero_add, List.nil_append] at hown; have H2 : Box (w2.ownsRow 0 126 2 v2 L.length (rcs L) /\ Below w1.heap.size w1 w2 /\ ∀ k, v2.ownBlock = some k -> w1.heap.size <= k) := ⟨hown, (Below.refl _ _).grown hgr (Nat.le_refl _) (fun k hk => by simp [Value.ownBlock] at hk), fun k hk => (hblk k hk).elim (fun h => by simp [Value.ownBlock] at h) id⟩; obtain ⟨a2, c2, rfl⟩ := own_form2 hown; clear hown hgr hblk)
 have hr2 : w2.heap[S]? = some (.cells (rc x).toArray 126 (0, 0)) := (H2.out.2.1.block S H.out.2.2.2).trans H.out.2.2.1
 have c0 : w2.cell? ⟨S, 0, none⟩ = some (.int .i64 (x.1 : Int)) := by rw [cell_of_row _ _ _ _ _ _ hr2]; rfl
 have c1 : w2.cell? ⟨S, 1, none⟩ = some (.string (strOfNums x.2)) := by rw [cell_of_row _ _ _ _ _ _ hr2]; rfl
 have H3 : Box (Below S w w2 /\ S < w2.heap.size /\ S < w1.heap.size) := ⟨H.out.2.1.trans (H2.out.2.1.mono (by have := H.out.2.2.2; omega)), Nat.lt_of_lt_of_le H.out.2.2.2 H2.out.2.1.size, H.out.2.2.2⟩
 clear hr2
 go_wp2_with (at_builtin; refine wpList_app2 rfl _ _ 33 rfl 126 2 24 (.agg (rc (0, [])).toArray) Tryd.underlying33 infoW rfl (by decide) (.slice a2 L.length c2) L.length (rcs L) rfl (H2.out.1.alloc _) ⟨w2.heap.size, 0, none⟩ 1 1 (rc x) rfl rfl (news_new w2 (rc x) _) (one_rc _) HB1.out.2 (by decide) ?_; intro v3 w3 hown hgr hblk; have H4 : Box (w3.ownsRow 0 126 2 v3 (L.length + 1) (rcs L ++ rc x) /\ Below S w w3 /\ ∀ k, v3.ownBlock = some k -> S <= k) := ⟨hown, (H3.out.1.alloc (Nat.le_of_lt H3.out.2.1) _).grown hgr (by simp; exact Nat.le_of_lt (Nat.lt_succ_of_lt H3.out.2.1)) (fun k hk => by have := H2.out.2.2 k hk; have := H3.out.2.2; omega), fun k hk => (hblk k hk).elim (fun h => by have := H2.out.2.2 k h; have := H3.out.2.2; omega) (fun h => by have h9 := H3.out.2.1; simp at h; omega)⟩; obtain ⟨a3, c3, rfl⟩ := own_form2 hown; clear hown hgr hblk)
 go_ret
 refine ⟨_, rfl, ?_, HS.out ▸ H4.out.2.1, HS.out ▸ H4.out.2.2⟩
 have h5 := H4.out.1
 unfold Rw
 rw [rcs_snoc, List.length_append]
 exact h5
end Go.Proofs.YthfobaeafapbnaaDoor.Disk
namespace Go.Proofs.YthfobaeafapbnaaDoor.Disk.Plain
end Go.Proofs.YthfobaeafapbnaaDoor.Disk.Plain
namespace Go.Proofs.YthfobaeafapbnaaDoor.Disk
open Go.RowKit Go.Proofs.YthfobaeafapbnaaDoor.Plain Go.Proofs.YthfobaeafapbnaaDoor.Disk.Plain
def rv (n : Nat) (vd vw : Value) (l : Int) (b : Bool) (vo : Value) : List Value := [.int .i64 (n : Int), vd, vw, .int .i64 l, .bool b, vo]
def Rv (w : World) (v : Value) (r : Rd) : Prop := ∃ vd vw vo, v = .agg (rv r.n vd vw r.left r.down vo).toArray /\ Rw w vd r.done /\ Rw w vw r.way /\ Ro w vo r.ops
theorem Rv.below {w w' : World} {v : Value} {r : Rd} (h : Rv w v r) (hb : Below w.heap.size w w') : Rv w' v r := by
 obtain ⟨vd, vw, vo, rfl, h1, h2, h3⟩ := h
 exact ⟨vd, vw, vo, rfl, h1.below hb, h2.below hb, h3.below hb⟩
theorem one_own {w : World} {base n : Nat} {e : TypeId} {sz : Nat} {v : Value} {xs : List Value} (h : w.ownsRow base e sz v n xs) : v.oneCell' = true := by
 obtain ⟨a, c, rfl⟩ := own_form2 h
 rfl
theorem one_rv {n : Nat} {vd vw vo : Value} {l : Int} {b : Bool} (h1 : vd.oneCell' = true) (h2 : vw.oneCell' = true) (h3 : vo.oneCell' = true) : (rv n vd vw l b vo).toArray.all (·.oneCell') = true := by
 have e1 : (Value.int .i64 (n : Int)).oneCell' = true := rfl
 have e2 : (Value.int .i64 l).oneCell' = true := rfl
 have e3 : (Value.bool b).oneCell' = true := rfl
 simp [rv, h1, h2, h3, e1, e2, e3]
theorem infoD : (Tryd.prog.info? 36).map (·.size) = some 6 := by kernel_rfl
theorem own_turned {w w' : World} {base n : Nat} {e : TypeId} {sz : Nat} {v : Value} {xs : List Value} {fp : Nat -> Prop} (h : w.ownsRow base e sz v n xs) (t : Turned fp w w') (hn : ∀ k, v.ownBlock = some k -> ¬ fp k) : w'.ownsRow base e sz v n xs := own_same h (fun k hk => t.block k (h.lt k hk).2 (hn k hk))
def Two (S : Nat) (k : Nat) : Prop := k = S ∨ k = S + 1
structure Bx (S : Nat) (w0 w : World) (V : List Value) : Prop where
 hB : w.heap[S]? = some (.cells V.toArray 36 (0, 0))
 hR : ∃ Z : Array Value, w.heap[S + 1]? = some (.cells Z 36 (0, 0)) /\ Z.size = 6
 tu : Turned (Two S) w0 w
 sz : w0.heap.size = S
theorem Bx.lt {S : Nat} {w0 w : World} {V : List Value} (h : Bx S w0 w V) : S + 1 < w.heap.size := by
 obtain ⟨Z, h1, _⟩ := h.hR
 exact (Array.getElem?_eq_some_iff.1 h1).1
theorem Bx.below {S : Nat} {w0 w : World} {V : List Value} (h : Bx S w0 w V) : Below S w0 w := h.tu.below (by rw [h.sz]; exact Nat.le_refl _) (fun k hk => by rcases hk with rfl | rfl <;> omega)
theorem Bx.cell {S : Nat} {w0 w : World} {V : List Value} (h : Bx S w0 w V) (k : Nat) : w.cell? ⟨S, k, none⟩ = V.toArray[k]? := cell_of_row _ _ _ _ _ _ h.hB
theorem Bx.froz {S : Nat} {w0 w : World} {V : List Value} (h : Bx S w0 w V) (k : Nat) : w.frozen? ⟨S, k, none⟩ = false := frozen_of_row _ _ _ _ _ h.hB
theorem Bx.start (w : World) (V : List Value) (Z : Array Value) (hZ : Z.size = 6) : Bx w.heap.size w ((w.alloc (.cells V.toArray 36)).alloc (.cells Z 36)) V :=
 ⟨al_old (al_at rfl), ⟨Z, al_at (by simp), hZ⟩, Turned.of_below (((Below.refl _ w).alloc (Nat.le_refl _) _).alloc (by simp) _), rfl⟩
theorem Bx.on {S : Nat} {w0 w w' : World} {V : List Value} (h : Bx S w0 w V) (hb : Below w.heap.size w w') : Bx S w0 w' V := by
 obtain ⟨Z, h1, h2⟩ := h.hR
 have hl := h.lt
 exact ⟨(hb.block S (by omega)).trans h.hB, ⟨Z, (hb.block (S + 1) (by omega)).trans h1, h2⟩, h.tu.trans (Turned.of_below (fp := fun _ => False) hb) (fun k hk => hk.elim), h.sz⟩
theorem Bx.put {S : Nat} {w0 w : World} {V : List Value} (h : Bx S w0 w V) (k : Nat) (v : Value) : Bx S w0 (w.setCell ⟨S, k, none⟩ v) (V.set k v) := by
 obtain ⟨Z, h1, h2⟩ := h.hR
 refine ⟨?_, ⟨Z, (heap_setCell_other w ⟨S, k, none⟩ (S + 1) _ (by simp)).trans h1, h2⟩, turned_set h.tu (.inl rfl) v, h.sz⟩
 have := heap_setCell_same w S k _ _ v h.hB
 simpa using this
theorem wpList_stD {ops : Array Oper} {rest : List Oper} {o : Oper} {act : Act} {w : World} {Q : Exit -> Act -> World -> Prop} (hgd : o.guard = none) (x y : Operand) (ho : o.op = .store 36 x y) (S : Nat) (w0 : World) (V V' : List Value) (hx : act.eval x = .pointer (some ⟨S + 1, 0, none⟩)) (hy : act.eval y = .agg V'.toArray)
  (H : Bx S w0 w V) (hV : V'.length = 6) (h1 : V'.toArray.all (·.oneCell') = true)
  (h : ∀ w', w'.heap[S + 1]? = some (.cells V'.toArray 36 (0, 0)) -> Bx S w0 w' V -> Turned (fun k => k = S + 1) w w' -> wpList Tryd.prog ops Q rest (act.put o.dst undef) w') : wpList Tryd.prog ops Q (o :: rest) act w := by
 obtain ⟨Z, hR, hZ⟩ := H.hR
 have hr := run_storeVar_row (P := Tryd.prog) w (S + 1) _ 36 Z V'.toArray hR (by rw [infoD]; simp [hV]) (by simp [hZ, hV]) h1
 have t : Turned (fun k => k = S + 1) w (w.setRow (S + 1) V'.toArray) := ⟨rfl, rfl, rfl, by simp, fun k _ hk => setRow_other w (S + 1) k _ hk⟩
 refine wpList_plain hgd fun _ hK => ?_
 unfold Oper.wp execOp
 simp only [ho, hx, hy, Instr.storeAt, Instr.sureAddr, Sem.run_bind, Sem.run_pure, Result.andThen_ok, hr]
 refine hK _ _ (h _ (setRow_heap w (S + 1) Z _ _ _ hR) ⟨(setRow_other w (S + 1) S _ (by omega)).trans H.hB, ⟨_, setRow_heap w (S + 1) Z _ _ _ hR, by simp [hV]⟩, H.tu.trans t (fun k hk => .inl (.inr hk)), H.sz⟩ t)
theorem results_D {fn : Func} {t : Tmp} (h : fn.results = #[.cell t 36]) (tmps : Array Value) (w : World) (b : Nat) (V : List Value) (ht : tmps.getD t undef = .pointer (some ⟨b, 0, none⟩)) (hV : V.length = 6) (hg : w.heap[b]? = some (.cells V.toArray 36 (0, 0))) :
  (results fn tmps).run Tryd.prog w = .ok (.agg V.toArray) w :=
 results_cell_row h tmps w b _ _ _ _ ht hg Tryd.underlying36 rfl (by rw [infoD]; simp [hV])
theorem results_D2 {fn : Func} {t u : Tmp} (h : fn.results = #[.cell t 36, .tmp u]) (tmps : Array Value) (w : World) (b : Nat) (V : List Value) (ht : tmps.getD t undef = .pointer (some ⟨b, 0, none⟩)) (hV : V.length = 6) (hg : w.heap[b]? = some (.cells V.toArray 36 (0, 0))) :
  (results fn tmps).run Tryd.prog w = .ok (.tuple #[.agg V.toArray, tmps.getD u undef]) w := by
 have hl := run_loadVar_row (P := Tryd.prog) w b _ 36 _ _ _ hg Tryd.underlying36 rfl (by rw [infoD]; simp [hV])
 rw [results_cell_tmp h, ht]
 simp [asAddr, hl]
theorem wpList_ldD {ops : Array Oper} {rest : List Oper} {o : Oper} {act : Act} {w : World} {Q : Exit -> Act -> World -> Prop} (hgd : o.guard = none) (x : Operand) (ho : o.op = .load 36 x) (S : Nat) (V : List Value) (hx : act.eval x = .pointer (some ⟨S, 0, none⟩)) (hB : w.heap[S]? = some (.cells V.toArray 36 (0, 0))) (hV : V.length = 6)
  (h : wpList Tryd.prog ops Q rest (act.put o.dst (.agg V.toArray)) w) : wpList Tryd.prog ops Q (o :: rest) act w :=
 wpList_load_row hgd 36 x ho S hx _ _ _ _ hB Tryd.underlying36 rfl (by rw [infoD]; simp [hV]) h
theorem app_end {S : Nat} {w0 w1 w2 w3 : World} {V : List Value} {e : TypeId} {sz n : Nat} {xs : List Value} {v2 v3 : Value} {o : Obj} (H : Bx S w0 w1 V) (hb : Below w1.heap.size w1 w2) (hv : ∀ k, v2.ownBlock = some k -> w1.heap.size <= k) (hown : w3.ownsRow 0 e sz v3 n xs) (hg : (w2.alloc o).grownBy w3 v2.ownBlock) (hblk : ∀ k, v3.ownBlock = some k -> v2.ownBlock = some k ∨ (w2.alloc o).heap.size <= k) :
  Box (w3.ownsRow 0 e sz v3 n xs /\ Bx S w0 w3 V /\ ∀ k, v3.ownBlock = some k -> S + 2 <= k) := by
 have hl := H.lt
 have hs := hb.size
 have hb3 : Below w1.heap.size w1 w3 := (hb.alloc hs _).grown hg (by simp; omega) (fun k hk => hv k hk)
 refine ⟨hown, H.on hb3, fun k hk => ?_⟩
 rcases hblk k hk with h | h
 ·have := hv k h; omega
 ·simp at h; omega
set_option maxRecDepth 20000 in
set_option maxHeartbeats 2000000 in
theorem rnoted_any (w : World) (n : Nat) (vd vw vo : Value) (l : Int) (b : Bool) (L : List (Int × Int)) (k i : Int) (hd : vd.oneCell' = true) (hw : vw.oneCell' = true) (h : Ro w vo L) (hl : L.length < 1000000) :
  Calls Tryd.prog 68 #[.agg (rv n vd vw l b vo).toArray, .int .i64 k, .int .i64 i] w fun e w' => ∃ v', e = .returned (.agg (rv n vd vw l b v').toArray) /\ Ro w' v' (L ++ [(k, i)]) /\ Below w.heap.size w w' /\ ∀ k, v'.ownBlock = some k -> w.heap.size <= k := by
 obtain ⟨a, cap, rfl⟩ := own_form2 h
 have H : Box (Bx w.heap.size w ((w.alloc (.cells (rv n vd vw l b (.slice a L.length cap)).toArray 36)).alloc (.cells #[.int .i64 0, .slice none 0 0, .slice none 0 0, .int .i64 0, .bool false, .slice none 0 0] 36)) (rv n vd vw l b (.slice a L.length cap))) := ⟨Bx.start w _ _ rfl⟩
 have HO : Box (Ro w (.slice a L.length cap) L) := ⟨h⟩
 have HB1 : Box ((0 + L.length) * 16 <= 140737488355328 /\ (L.length + 1) * 16 <= 140737488355328) := ⟨by omega, by omega⟩
 have H1 : Box (vd.oneCell' = true /\ vw.oneCell' = true) := ⟨hd, hw⟩
 obtain ⟨S, HS⟩ : ∃ S, Box (w.heap.size = S) := ⟨_, ⟨rfl⟩⟩
 clear h hl hd hw
 go_enter Tryd.func68, Tryd.ntmps68
 go_upto_region 1 with fail
 rw [HS.out] at H ⊢
 generalize (w.alloc (.cells (rv n vd vw l b (.slice a L.length cap)).toArray 36)).alloc (.cells #[.int .i64 0, .slice none 0 0, .slice none 0 0, .int .i64 0, .bool false, .slice none 0 0] 36) = w1 at H ⊢
 have c5 : w1.cell? ⟨S, 5, none⟩ = some (.slice a L.length cap) := H.out.cell 5
 have HO1 : Box (Ro w1 (.slice a L.length cap) L) := ⟨HO.out.below (HS.out ▸ H.out.below)⟩
 go_upto_region 3 with (at_builtin; refine wpList_appv rfl _ _ 34 rfl 166 2 16 (.agg (oc (0, 0)).toArray) Tryd.underlying34 infoO rfl (by decide) (.slice none 0 0) (.slice a L.length cap) 0 L.length [] (ocs L) rfl rfl (World.ownsRow_nil _ _ _ _) HO1.out (one_ocs L) (by decide) HB1.out.1 ?_; intro v2 w2 hown hgr hblk; rw [Nat.zero_add, List.nil_append] at hown; have H2 : Box (w2.ownsRow 0 166 2 v2 L.length (ocs L) /\ Below w1.heap.size w1 w2 /\ ∀ k, v2.ownBlock = some k -> w1.heap.size <= k) := ⟨hown, (Below.refl _ _).grown hgr (Nat.le_refl _) (fun k hk => by simp [Value.ownBlock] at hk), fun k hk => (hblk k hk).elim (fun h => by simp [Value.ownBlock] at h) id⟩; obtain ⟨a2, c2, rfl⟩ := own_form2 hown; clear hown hgr hblk)
 have H3 : Box (Bx S w w2 (rv n vd vw l b (.slice a L.length cap))) := ⟨H.out.on H2.out.2.1⟩
 clear c5
 go_upto_region 4 with (at_builtin; refine wpList_app2 rfl _ _ 34 rfl 166 2 16 (.agg (oc (0, 0)).toArray) Tryd.underlying34 infoO rfl (by decide) (.slice a2 L.length c2) L.length (ocs L) rfl (H2.out.1.alloc _) ⟨w2.heap.size, 0, none⟩ 1 1 (oc (k, i)) rfl rfl (news_new w2 (oc (k, i)) _) (one_oc _) HB1.out.2 (by decide) ?_; intro v3 w3 hown hgr hblk; have H4 : Box (w3.ownsRow 0 166 2 v3 (L.length + 1) (ocs L ++ oc (k, i)) /\ Bx S w w3 (rv n vd vw l b (.slice a L.length cap)) /\ ∀ k, v3.ownBlock = some k -> S + 2 <= k) := app_end H.out H2.out.2.1 H2.out.2.2 hown hgr hblk; obtain ⟨a3, c3, rfl⟩ := own_form2 hown; have c5 : w3.cell? ⟨S, 5, none⟩ = some (.slice a L.length cap) := H4.out.2.1.cell 5; have f5 := H4.out.2.1.froz 5; clear hown hgr hblk)
 have H5 : Box (Bx S w (w3.setCell ⟨S, 5, none⟩ (.slice a3 (L.length + 1) c3)) (rv n vd vw l b (.slice a3 (L.length + 1) c3))) := ⟨H4.out.2.1.put 5 _⟩
 have H6 : Box ((w3.setCell ⟨S, 5, none⟩ (.slice a3 (L.length + 1) c3)).ownsRow 0 166 2 (.slice a3 (L.length + 1) c3) (L.length + 1) (ocs L ++ oc (k, i)) /\ ∀ k, (Value.slice a3 (L.length + 1) c3).ownBlock = some k -> S + 2 <= k) := ⟨own_turned H4.out.1 (turned_set (Turned.refl _ _) (fp := fun k => k = S) rfl _) (fun k hk e => by have := H4.out.2.2 k hk; omega), H4.out.2.2⟩
 clear c5 f5 H4
 generalize w3.setCell ⟨S, 5, none⟩ (.slice a3 (L.length + 1) c3) = w4 at H5 H6 ⊢
 go_wp2_with (first
  | (refine wpList_ldD rfl _ rfl S (rv n vd vw l b (.slice a3 (L.length + 1) c3)) rfl H5.out.hB rfl ?_)
  | (refine wpList_stD rfl _ _ rfl S w _ (rv n vd vw l b (.slice a3 (L.length + 1) c3)) rfl rfl H5.out rfl (one_rv H1.out.1 H1.out.2 rfl) ?_; intro w5 h5 b5 t5))
 (try simp only [Exit.inBlock, Exit.then])
 refine bodyPost_ret (results_D rfl _ _ (S + 1) _ rfl rfl h5) rfl ?_
 refine ⟨_, rfl, ?_, HS.out ▸ b5.below, fun k hk => by have := H6.out.2 k hk; have := HS.out; omega⟩
 unfold Ro
 rw [ocs_snoc, List.length_append]
 exact own_turned H6.out.1 t5 (fun k hk e => by have := H6.out.2 k hk; omega)
end Go.Proofs.YthfobaeafapbnaaDoor.Disk
