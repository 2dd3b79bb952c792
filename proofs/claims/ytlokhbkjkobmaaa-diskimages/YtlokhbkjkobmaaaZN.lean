/-
  The reference's disk of layer 6, by value; what its functions last, fits, more and noted answer.
-/
import Derived.Test.YtlokhbkjkobmaaaZC
namespace Go.Proofs.Ytlokhbkjkobmaaa
set_option linter.unusedVariables false
open Go.RowKit Plain

/-- The reference's disk. -/
structure Rd where
  n : Nat
  done : List (Nat × List Int)
  way : List (Nat × List Int)
  left : Int
  down : Bool
  ops : List (Int × Int)
def rc (x : Nat × List Int) : List Value := [.int .i64 (x.1 : Int), .string (strOfNums x.2)]
def rcs (L : List (Nat × List Int)) : List Value := (L.map rc).flatten
theorem rcs_snoc (L : List (Nat × List Int)) (x : Nat × List Int) : rcs (L ++ [x]) = rcs L ++ rc x := by simp [rcs]
theorem rcs_all (L : List (Nat × List Int)) : ∀ x ∈ L.map rc, x.length = 2 := by
  intro x hx
  obtain ⟨y, hy, rfl⟩ := List.mem_map.1 hx
  rfl
theorem length_rcs (L : List (Nat × List Int)) : (rcs L).length = L.length * 2 := by rw [rcs, flat_length _ 2 (rcs_all L), List.length_map]
theorem length_ocs (L : List (Int × Int)) : (ocs L).length = L.length * 2 := by rw [ocs, flat_length _ 2 (ocs_all L), List.length_map]
theorem one_rc (x : Nat × List Int) : ∀ u ∈ rc x, u.oneCell' = true := by
  intro u hu
  simp only [rc, List.mem_cons, List.not_mem_nil, or_false] at hu
  rcases hu with rfl | rfl <;> rfl
theorem one_rcs (L : List (Nat × List Int)) : ∀ u ∈ rcs L, u.oneCell' = true := fun u hu => by
  obtain ⟨l, hl, hu⟩ := List.mem_flatten.1 hu
  obtain ⟨x, _, rfl⟩ := List.mem_map.1 hl
  exact one_rc x u hu
theorem one_ocs (L : List (Int × Int)) : ∀ u ∈ ocs L, u.oneCell' = true := fun u hu => by
  obtain ⟨l, hl, hu⟩ := List.mem_flatten.1 hu
  obtain ⟨x, _, rfl⟩ := List.mem_map.1 hl
  exact one_oc x u hu
theorem size_str (B : List Int) : (strOfNums B).size = B.length := by simp [strOfNums, ByteArray.size]
/-- A row of writes, in memory. -/
def Rw (w : World) (v : Value) (L : List (Nat × List Int)) : Prop := w.ownsRow 0 82 2 v L.length (rcs L)
def Ro (w : World) (v : Value) (L : List (Int × Int)) : Prop := w.ownsRow 0 76 2 v L.length (ocs L)
theorem own_below {w w' : World} {e : TypeId} {sz n : Nat} {v : Value} {xs : List Value} (h : w.ownsRow 0 e sz v n xs) (hb : Below w.heap.size w w') : w'.ownsRow 0 e sz v n xs := own_same h (fun k hk => hb.block k (h.lt k hk).2)
theorem Rw.below {w w' : World} {v : Value} {L : List (Nat × List Int)} (h : Rw w v L) (hb : Below w.heap.size w w') : Rw w' v L := own_below h hb
theorem Ro.below {w w' : World} {v : Value} {L : List (Int × Int)} (h : Ro w v L) (hb : Below w.heap.size w w') : Ro w' v L := own_below h hb
theorem Rw.at_ {w : World} {v : Value} {L : List (Nat × List Int)} (h : Rw w v L) (h0 : 0 < L.length) : ∃ g cap, v = .slice (some ⟨g, 0, none⟩) L.length cap ∧ g < w.heap.size ∧ ∀ k (hk : k < L.length), w.cell? ⟨g, k * 2, none⟩ = some (.int .i64 (L[k].1 : Int)) ∧ w.cell? ⟨g, k * 2 + 1, none⟩ = some (.string (strOfNums L[k].2)) := by
  rcases h.2 with ⟨_, h2⟩ | ⟨g, cap, cur, h1, _, hg, _⟩
  · omega
  · refine ⟨g, cap, h1, (Array.getElem?_eq_some_iff.1 hg).1, fun k hk => ?_⟩
    have hh : ∀ j u, (rcs L)[j]? = some u → w.cell? ((⟨g, 0, none⟩ : Addr).add j) = some u := World.ownsRow.cells h (g := g) (by rw [h1]; rfl)
    have e : ∀ j, j < 2 → (rcs L)[2 * k + j]? = (rc L[k])[j]? := fun j hj => by
      rw [rcs, flat_at _ 2 (rcs_all L) k (by simpa using hk) j hj]
      simp
    have a0 := hh (2 * k + 0) _ (by rw [e 0 (by omega)]; rfl)
    have a1 := hh (2 * k + 1) _ (by rw [e 1 (by omega)]; rfl)
    rw [Addr.add_lit, Nat.zero_add] at a0 a1
    rw [Nat.mul_comm]
    exact ⟨a0, a1⟩
theorem lastOf_at (L : List (Nat × List Int)) (i k : Nat) (hk : k < L.length) (hp : L[k].1 = i) (h : ∀ q (hq : q < L.length), k < q → L[q].1 ≠ i) : lastOf L i = some L[k].2 := by
  have e : L.reverse = (L.drop (k + 1)).reverse ++ L[k] :: (L.take k).reverse := by
    have : L = L.take k ++ (L[k] :: L.drop (k + 1)) := by rw [List.getElem_cons_drop, List.take_append_drop]
    conv => lhs; rw [this]
    rw [List.reverse_append, List.reverse_cons, List.append_assoc]
    rfl
  unfold lastOf
  rw [e, List.find?_append]
  have h1 : (L.drop (k + 1)).reverse.find? (fun x => x.1 == i) = none := by
    rw [List.find?_eq_none]
    intro x hx
    obtain ⟨j, hj, rfl⟩ := List.getElem_of_mem (List.mem_reverse.1 hx)
    have hj2 : k + 1 + j < L.length := by simp at hj; omega
    have := h (k + 1 + j) hj2 (by omega)
    simpa using this
  rw [h1]
  simp [hp]
theorem lastOf_no (L : List (Nat × List Int)) (i : Nat) (h : ∀ q (hq : q < L.length), L[q].1 ≠ i) : lastOf L i = none := by
  unfold lastOf
  rw [Option.map_eq_none_iff, List.find?_eq_none]
  intro x hx
  obtain ⟨j, hj, rfl⟩ := List.getElem_of_mem (List.mem_reverse.1 hx)
  simpa using h j hj
/-- What last tells. -/
def lst (L : List (Nat × List Int)) (i : Nat) : Value := match lastOf L i with
  | some B => .tuple #[.string (strOfNums B), .bool true]
  | none => .tuple #[.string ByteArray.empty, .bool false]
set_option maxRecDepth 20000 in
set_option maxHeartbeats 2000000 in
theorem rlast_any (w : World) (v : Value) (L : List (Nat × List Int)) (i : Nat) (h : Rw w v L) (hl : L.length < 1000000) :
    Calls Try.prog 47 #[v, .int .i64 (i : Int)] w fun e w' => e = .returned (lst L i) ∧ w = w' := by
  obtain ⟨a, cap, rfl⟩ := own_form2 h
  have H : Box (Rw w (.slice a L.length cap) L) := ⟨h⟩
  have hw1 : IntKind.i64.wrap ((L.length : Int) - 1) = (L.length : Int) - 1 := by rw [IntKind.wrap_i64]; omega
  clear h
  go_enter Try.func47, Try.ntmps47
  go_wp2
  go_loopw [6] (fun j wr => ∃ k : Nat, k ≤ L.length ∧ j = .int .i64 ((L.length : Int) - 1 - k) ∧ Box (wr = w ∧ ∀ q (hq : q < L.length), L.length - 1 - k < q ∨ k = L.length → L[q].1 ≠ i)) (fun j _ => (intOf j + 1).toNat)
  case atStart => exact ⟨0, Nat.zero_le _, by simp, ⟨rfl, fun q hq h => by omega⟩⟩
  case round =>
    obtain ⟨k, hk, rfl, HI⟩ := hrel
    obtain ⟨rfl, hne⟩ := HI.out
    have HNe : Box (∀ q (hq : q < L.length), L.length - 1 - k < q ∨ k = L.length → L[q].1 ≠ i) := ⟨hne⟩
    clear hne HI
    by_cases hlt : k < L.length
    · have hq : L.length - 1 - k < L.length := by omega
      obtain ⟨g, c, ev, hg, hc⟩ := H.out.at_ (by omega)
      simp only [Value.slice.injEq, true_and] at ev
      obtain ⟨rfl, rfl⟩ := ev
      obtain ⟨c0, c1⟩ := hc _ hq
      have hw2 : IntKind.i64.wrap (((L.length - 1 - k : Nat) : Int) - 1) = ((L.length - 1 - k : Nat) : Int) - 1 := by rw [IntKind.wrap_i64]; omega
      rw [show ((L.length : Int) - 1 - k) = ((L.length - 1 - k : Nat) : Int) by omega]
      have HA : Box (L[L.length - 1 - k].1 = i → lastOf L i = some L[L.length - 1 - k].2) := ⟨fun hp => lastOf_at L i _ hq hp (fun q h1 h2 => HNe.out q h1 (.inl h2))⟩
      have hqe : Box (L.length - 1 - k + k + 1 = L.length) := ⟨by omega⟩
      have HNx : Box (L[L.length - 1 - k].1 ≠ i → ∀ q (hq : q < L.length), L.length - 1 - (k + 1) < q ∨ k + 1 = L.length → L[q].1 ≠ i) := ⟨fun hp q h1 h2 => by
        by_cases e : q = L.length - 1 - k
        · subst e; exact hp
        · exact HNe.out q h1 (.inl (by omega))⟩
      generalize L[L.length - 1 - k] = x at c0 c1 HA HNx
      generalize L.length - 1 - k = q at *
      clear hc HNe
      by_cases hp : x.1 = i
      · have hpi : ((x.1 : Int) == (i : Int)) = true := by simp [hp]
        have HL : Box (lst L i = .tuple #[.string (strOfNums x.2), .bool true]) := ⟨by rw [lst, HA.out hp]⟩
        clear HA HNx hp
        go_wp2
        go_ret2
        exact ⟨by rw [HL.out]; rfl, rfl⟩
      · have hpi : ((x.1 : Int) == (i : Int)) = false := by
          have : ¬ ((x.1 : Int) = (i : Int)) := by omega
          simp [this]
        clear HA
        go_wp2
        exact ⟨⟨k + 1, by have := hqe.out; omega, by have := hqe.out; congr 1; omega, ⟨trivial, HNx.out hp⟩⟩, by simp [intOf]⟩
    · obtain rfl : k = L.length := by omega
      have HL : Box (lst L i = .tuple #[.string ByteArray.empty, .bool false]) := ⟨by rw [lst, lastOf_no L i (fun q hq => HNe.out q hq (.inr rfl))]⟩
      have hneg : decide (0 ≤ (L.length : Int) - 1 - L.length) = false := by simp; omega
      clear HNe
      go_wp2
      go_ret2
      exact ⟨by rw [HL.out]; rfl, rfl⟩
/-- A row appended to a row of one's own. -/
theorem run_appv {P : Program} (w : World) (t ty e : TypeId) (z : Value) (size bytes : Nat) (ht : P.underlying t = some (.slice e)) (hi : (P.info? e).map (fun i => (i.zero, i.size, i.bytes)) = some (some z, size, bytes)) (hzs : z.cells.size = size) (hsz : 0 < size)
    (v u : Value) (n m : Nat) (xs ys : List Value) (hv : w.ownsRow 0 e size v n xs) (hu : w.ownsRow 0 e size u m ys) (h1 : ∀ c ∈ ys, c.oneCell' = true) (hb : 0 < bytes) (hbytes : (n + m) * bytes ≤ 140737488355328) :
    ∃ v' w', (Builtin.append_ #[t, t] ty #[v, u]).run P w = .ok v' w' ∧ w'.ownsRow 0 e size v' (n + m) (xs ++ ys) ∧ w.grownBy w' v.ownBlock ∧ ∀ k, v'.ownBlock = some k → v.ownBlock = some k ∨ w.heap.size ≤ k := by
  obtain ⟨i, hi1, hz, hsize, hby⟩ := info_parts hi
  have h63 : n + m ≤ maxLen := by
    have : (n + m) * 1 ≤ (n + m) * bytes := Nat.mul_le_mul_left _ hb
    unfold maxLen
    omega
  rcases hu.2 with ⟨rfl, rfl⟩ | ⟨g, cap, cur, rfl, _, hg, _⟩
  · have hy : ys = [] := List.eq_nil_of_length_eq_zero (by simpa using hu.1)
    subst hy
    refine ⟨v, w, ?_, by simpa using hv, ⟨rfl, rfl, rfl, Nat.le_refl _, fun _ _ _ => rfl⟩, fun k hk => .inl hk⟩
    rcases hv.2 with ⟨rfl, rfl⟩ | ⟨g, cap', cur, rfl, _, _, hle, _⟩
    · simp [Builtin.append_, run_underlying ht, sizeOf, typeInfo, hi1, Builtin.lenOf, Builtin.firstCells]
    · simp [Builtin.append_, run_underlying ht, sizeOf, typeInfo, hi1, Builtin.lenOf, Builtin.firstCells, hle, storeCells]
  · exact run_app w t ty e i z size bytes ht hi1 hz hsize hby hzs hsz v n xs hv ⟨g, 0, none⟩ m cap ys hu.1 (hu.cells (g := g) rfl) h1 h63 hbytes
theorem wpList_appv {P : Program} {ops : Array Oper} {rest : List Oper} {o : Oper} {act : Act} {w : World} {Q : Exit → Act → World → Prop} (hgd : o.guard = none) (s x : Operand) (t : TypeId) (ho : o.op = .call { callee := .builtin .append, args := #[s, x], argTypes := #[t, t] })
    (e : TypeId) (size bytes : Nat) (z : Value) (ht : P.underlying t = some (.slice e)) (hi : (P.info? e).map (fun i => (i.zero, i.size, i.bytes)) = some (some z, size, bytes)) (hzs : z.cells.size = size) (hsz : 0 < size) (v u : Value) (n m : Nat) (xs ys : List Value) (hs : act.eval s = v) (hx : act.eval x = u) (hv : w.ownsRow 0 e size v n xs) (hu : w.ownsRow 0 e size u m ys)
    (h1 : ∀ c ∈ ys, c.oneCell' = true) (hb : 0 < bytes) (hbytes : (n + m) * bytes ≤ 140737488355328)
    (h : ∀ v' w', w'.ownsRow 0 e size v' (n + m) (xs ++ ys) → w.grownBy w' v.ownBlock → (∀ k, v'.ownBlock = some k → v.ownBlock = some k ∨ w.heap.size ≤ k) → wpList P ops Q rest (act.put o.dst v') w') : wpList P ops Q (o :: rest) act w := by
  refine wpList_plain hgd fun _ hK => ?_
  obtain ⟨v', w', hr, h2, h3, h4⟩ := run_appv (P := P) w t o.type e z size bytes ht hi hzs hsz v u n m xs ys hv hu h1 hb hbytes
  unfold Oper.wp execOp
  simp only [ho, resolve, invoke, builtin, Sem.run_bind, Sem.run_pure, Result.andThen_ok, List.map_toArray, List.map_cons, List.map_nil, hs, hx, hr]
  exact hK _ _ (h v' w' h2 h3 h4)
theorem infoW : (Try.prog.info? 82).map (fun i => (i.zero, i.size, i.bytes)) = some (some (.agg (rc (0, [])).toArray), 2, 24) := by kernel_rfl
theorem infoO : (Try.prog.info? 76).map (fun i => (i.zero, i.size, i.bytes)) = some (some (.agg (oc (0, 0)).toArray), 2, 16) := by kernel_rfl
end Go.Proofs.Ytlokhbkjkobmaaa
