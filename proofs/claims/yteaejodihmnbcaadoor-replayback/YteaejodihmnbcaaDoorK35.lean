/-
  The last bytes of each block, by rising numbers: plainly, and out of a map's pairs in whatever order. And what follows it.
-/
import Derived.Test.YteaejodihmnbcaaDoorK34
import Derived.Shelf.SlSortCmp.WholeK
import Derived.Shelf.SlGeneric
import Derived.Shelf.Lay
import Derived.Ground.SlsfProg
import Derived.Test.YteaejodihmnbcaaDoorK28
namespace Go.Proofs.YteaejodihmnbcaaDoor
set_option maxRecDepth 100000
set_option linter.unusedVariables false
open Go.RowKit Plain
def Rise (l : List (Int × List Int)) : Prop := l.Pairwise (fun a b => a.1 < b.1)
/-- A row of blocks, rising, with one more, or with it anew. -/
def insP : List (Int × List Int) → Int × List Int → List (Int × List Int)
  | [], x => [x]
  | y :: l, x => if y.1 < x.1 then y :: insP l x else if y.1 = x.1 then x :: l else x :: y :: l
def latP (L : List (Int × List Int)) : List (Int × List Int) := L.foldl insP []
theorem mem_insP (x : Int × List Int) : ∀ l, Rise l → ∀ q, q ∈ insP l x ↔ q = x ∨ (q.1 ≠ x.1 ∧ q ∈ l)
  | [], _, q => by simp [insP]
  | y :: l, h, q => by
    have h' := List.pairwise_cons.1 h
    rw [insP]
    split
    · rename_i hlt
      simp only [List.mem_cons, mem_insP x l h'.2 q]
      constructor
      · rintro (h1 | h1 | h1)
        · exact .inr ⟨by rw [h1]; omega, .inl h1⟩
        · exact .inl h1
        · exact .inr ⟨h1.1, .inr h1.2⟩
      · rintro (h1 | ⟨h1, h2 | h2⟩)
        · exact .inr (.inl h1)
        · exact .inl h2
        · exact .inr (.inr ⟨h1, h2⟩)
    · split
      · rename_i hlt heq
        simp only [List.mem_cons]
        constructor
        · rintro (h1 | h1)
          · exact .inl h1
          · have := h'.1 q h1
            exact .inr ⟨by omega, .inr h1⟩
        · rintro (h1 | ⟨h1, h2 | h2⟩)
          · exact .inl h1
          · exact absurd (by rw [h2]; exact heq) h1
          · exact .inr h2
      · rename_i hlt heq
        simp only [List.mem_cons]
        constructor
        · rintro (h1 | h1 | h1)
          · exact .inl h1
          · exact .inr ⟨by rw [h1]; exact heq, .inl h1⟩
          · have := h'.1 q h1
            exact .inr ⟨by omega, .inr h1⟩
        · rintro (h1 | ⟨h1, h2⟩)
          · exact .inl h1
          · exact .inr h2
theorem rise_insP (x : Int × List Int) : ∀ l, Rise l → Rise (insP l x)
  | [], _ => by simp [insP, Rise]
  | y :: l, h => by
    have h' := List.pairwise_cons.1 h
    rw [insP]
    split
    · rename_i hlt
      refine List.pairwise_cons.2 ⟨fun q hq => ?_, rise_insP x l h'.2⟩
      rcases (mem_insP x l h'.2 q).1 hq with rfl | ⟨_, h2⟩
      · exact hlt
      · exact h'.1 q h2
    · split
      · rename_i hlt heq
        exact List.pairwise_cons.2 ⟨fun q hq => by have := h'.1 q hq; omega, h'.2⟩
      · rename_i hlt heq
        refine List.pairwise_cons.2 ⟨fun q hq => ?_, h⟩
        rcases List.mem_cons.1 hq with rfl | hq
        · omega
        · have := h'.1 q hq
          omega
theorem eq_of_rise : ∀ {A B : List (Int × List Int)}, Rise A → Rise B → (∀ q, q ∈ A ↔ q ∈ B) → A = B
  | [], [], _, _, _ => rfl
  | [], b :: B, _, _, h => absurd ((h b).2 (by simp)) (by simp)
  | a :: A, [], _, _, h => absurd ((h a).1 (by simp)) (by simp)
  | a :: A, b :: B, hA, hB, h => by
    have hA' := List.pairwise_cons.1 hA
    have hB' := List.pairwise_cons.1 hB
    have e : a = b := by
      rcases List.mem_cons.1 ((h a).1 (by simp)) with h1 | h1
      · exact h1
      · rcases List.mem_cons.1 ((h b).2 (by simp)) with h2 | h2
        · exact h2.symm
        · have := hB'.1 a h1
          have := hA'.1 b h2
          omega
    subst e
    congr 1
    refine eq_of_rise hA'.2 hB'.2 fun q => ⟨fun hq => ?_, fun hq => ?_⟩
    · rcases List.mem_cons.1 ((h q).1 (by simp [hq])) with h1 | h1
      · have := hA'.1 q hq
        rw [h1] at this
        omega
      · exact h1
    · rcases List.mem_cons.1 ((h q).2 (by simp [hq])) with h1 | h1
      · have := hB'.1 q hq
        rw [h1] at this
        omega
      · exact h1
/-- A map and a row that hold the same. -/
structure Mr (m : List (Int × Im)) (l : List (Int × List Int)) : Prop where
  nd : (m.map Prod.fst).Nodup
  key : ∀ p ∈ m, p.1 = p.2.blk
  ri : Rise l
  mem : ∀ q, (∃ p ∈ m, pl p.2 = q) ↔ q ∈ l
theorem mr_nil : Mr [] [] := ⟨by simp, fun p hp => by simp at hp, List.Pairwise.nil, fun q => by simp⟩
theorem Mr.put {m : List (Int × Im)} {l : List (Int × List Int)} (h : Mr m l) (x : Im) : Mr (mput m x.blk x) (insP l (pl x)) := by
  refine ⟨nodup_mput _ _ m h.nd, fun p hp => ?_, rise_insP _ l h.ri, fun q => ?_⟩
  · rcases (mem_mput _ _ m h.nd p).1 hp with rfl | ⟨_, h2⟩
    · rfl
    · exact h.key p h2
  · rw [mem_insP _ l h.ri, ← h.mem q]
    constructor
    · rintro ⟨p, hp, rfl⟩
      rcases (mem_mput _ _ m h.nd p).1 hp with rfl | ⟨h1, h2⟩
      · exact .inl rfl
      · refine .inr ⟨?_, p, h2, rfl⟩
        rw [h.key p h2] at h1
        exact h1
    · rintro (rfl | ⟨h1, p, h2, rfl⟩)
      · exact ⟨(x.blk, x), (mem_mput _ _ m h.nd _).2 (.inl rfl), rfl⟩
      · exact ⟨p, (mem_mput _ _ m h.nd _).2 (.inr ⟨by rw [h.key p h2]; exact h1, h2⟩), rfl⟩
/-- What is put one behind the other. -/
def mF (M : List Im) : List (Int × Im) := M.foldl (fun m x => mput m x.blk x) []
theorem mr_foldl : ∀ (M : List Im) {m : List (Int × Im)} {l : List (Int × List Int)}, Mr m l → Mr (M.foldl (fun m x => mput m x.blk x) m) ((M.map pl).foldl insP l)
  | [], _, _, h => h
  | x :: M, _, _, h => mr_foldl M (h.put x)
theorem mr_mF (M : List Im) : Mr (mF M) (latP (M.map pl)) := mr_foldl M mr_nil
theorem mF_snoc (M : List Im) (x : Im) : mF (M ++ [x]) = mput (mF M) x.blk x := by simp [mF]
theorem latP_snoc (L : List (Int × List Int)) (x : Int × List Int) : latP (L ++ [x]) = insP (latP L) x := by simp [latP]
theorem len_mF (M : List Im) : (mF M).length ≤ M.length := by
  have key : ∀ (M : List Im) (m : List (Int × Im)), (M.foldl (fun m x => mput m x.blk x) m).length ≤ m.length + M.length := by
    intro M
    induction M with
    | nil => intro m; simp
    | cons x M ih =>
      intro m
      have h1 := ih (mput m x.blk x)
      have h2 := len_mput x.blk x m
      simp only [List.foldl_cons, List.length_cons]
      omega
  simpa [mF] using key M []
/-- Of no images but those that were put. -/
theorem mem_mF (M : List Im) : ∀ p ∈ mF M, p.2 ∈ M := by
  have key : ∀ (M : List Im) (m : List (Int × Im)) (S : List Im), (m.map Prod.fst).Nodup → (∀ p ∈ m, p.2 ∈ S) → ∀ p ∈ M.foldl (fun m x => mput m x.blk x) m, p.2 ∈ S ++ M := by
    intro M
    induction M with
    | nil => intro m S _ h p hp; simpa using h p hp
    | cons x M ih =>
      intro m S hn h p hp
      have := ih (mput m x.blk x) (S ++ [x]) (nodup_mput _ _ m hn) (fun q hq => by
        rcases (mem_mput _ _ m hn q).1 hq with rfl | ⟨_, h2⟩
        · simp
        · simp [h q h2]) p hp
      simpa using this
  intro p hp
  simpa using key M [] [] (by simp) (fun p hp => by simp at hp) p hp
/-- Told in whatever order, then sorted by their numbers. -/
theorem sorted_lat {m : List (Int × Im)} {l X : List (Int × List Int)} (h : Mr m l) (hp : X.Perm (m.map (fun p => pl p.2))) (hs : X.Pairwise (fun a b => a.1 ≤ b.1)) : X = l := by
  have hk : (X.map Prod.fst).Nodup := by
    have h1 : ((m.map (fun p => pl p.2)).map Prod.fst).Nodup := by
      have e : (m.map (fun p => pl p.2)).map Prod.fst = m.map Prod.fst := by
        rw [List.map_map]
        apply List.map_congr_left
        intro p hp
        exact (h.key p hp).symm
      rw [e]
      exact h.nd
    exact (hp.map Prod.fst).nodup_iff.2 h1
  refine eq_of_rise ?_ h.ri fun q => ?_
  · have hk2 : X.Pairwise (fun a b => a.1 ≠ b.1) := by
      rw [List.nodup_iff_pairwise_ne, List.pairwise_map] at hk
      exact hk
    exact (hs.and hk2).imp (fun {a b} h => by omega)
  · rw [hp.mem_iff, ← h.mem q]
    simp
end Go.Proofs.YteaejodihmnbcaaDoor
namespace Go.Proofs.YteaejodihmnbcaaDoor
set_option maxRecDepth 100000
set_option linter.unusedVariables false
open Go.RowKit Go.Shelf Go.Lib Go.Sort Plain
shelf_lay_g SlLaysF0.n6 Slsf 6 at Tryd 22 as laysIm
theorem renIm : laysIm_ren.f 6 = 22 := by kernel_rfl
instance : Inhabited Im := ⟨⟨0, none, 0, 0, []⟩⟩
def cmpI (x y : Im) : Int := if x.blk < y.blk then -1 else if y.blk < x.blk then 1 else 0
theorem lt_cmpI (x y : Im) : ltOf cmpI x y = decide (x.blk < y.blk) := by
  unfold ltOf cmpI
  by_cases h1 : x.blk < y.blk
  · simp [h1]
  · by_cases h2 : y.blk < x.blk <;> simp [h1, h2]
theorem swo_cmpI : SWO (ltOf cmpI) where
  irrefl x := by rw [lt_cmpI]; simp
  trans x y z h1 h2 := by rw [lt_cmpI] at *; simp at *; omega
  ntrans x y z h1 h2 := by rw [lt_cmpI] at *; simp at *; omega
theorem isNaN_any (x : Int) (w : World) : Calls Tryd.prog 41 #[.int .u64 x] w fun e w' => e = .returned (.bool false) ∧ w = w' := by
  go_enter Tryd.func41, Tryd.ntmps41
  go_wp2
  go_ret
  exact ⟨by simp, rfl⟩
theorem compare_any (x y : Int) (w : World) : Calls Tryd.prog 24 #[.int .u64 x, .int .u64 y] w fun e w' => e = .returned (.int .i64 (if x < y then -1 else if y < x then 1 else 0)) ∧ w = w' := by
  have HN : Box (∀ z w, Calls Tryd.prog 41 #[.int .u64 z] w fun e w' => e = .returned (.bool false) ∧ w = w') := ⟨isNaN_any⟩
  by_cases h1 : x < y
  · rw [if_pos h1]
    go_enter Tryd.func24, Tryd.ntmps24
    go_wp2_with (go_at_call 41; refine (HN.out _ _).mono ?_; rintro e w' ⟨rfl, rfl⟩)
    go_ret
    exact ⟨rfl, rfl⟩
  · rw [if_neg h1]
    by_cases h2 : y < x
    · rw [if_pos h2]
      go_enter Tryd.func24, Tryd.ntmps24
      go_wp2_with (go_at_call 41; refine (HN.out _ _).mono ?_; rintro e w' ⟨rfl, rfl⟩)
      go_ret
      exact ⟨rfl, rfl⟩
    · rw [if_neg h2]
      go_enter Tryd.func24, Tryd.ntmps24
      go_wp2_with (go_at_call 41; refine (HN.out _ _).mono ?_; rintro e w' ⟨rfl, rfl⟩)
      go_ret
      exact ⟨rfl, rfl⟩
set_option maxHeartbeats 1000000 in
theorem clos_any (x y : Im) (W : World) : Calls Tryd.prog 23 #[.agg (imc x).toArray, .agg (imc y).toArray] W fun e w' => e = .returned (.int .i64 (cmpI x y)) ∧ ∃ q os', w' = grow (W.drewN q) os' := by
  have hcon := fun W' => compare_any x.blk y.blk W'
  have e : cmpI x y = (if x.blk < y.blk then -1 else if y.blk < x.blk then 1 else 0) := rfl
  rw [e]
  obtain ⟨xb, xa, xl, xc, xs⟩ := x
  obtain ⟨yb, ya, yl, yc, ys⟩ := y
  simp only [imc] at hcon ⊢
  generalize (if xb < yb then (-1 : Int) else if yb < xb then 1 else 0) = r at hcon ⊢
  have HC : Box _ := ⟨hcon⟩
  clear hcon e
  go_enter Tryd.func23, Tryd.ntmps23
  go_wp2_with (go_at_call 24; refine (HC.out _).mono ?_; rintro e w' ⟨rfl, rfl⟩)
  go_ret
  exact ⟨rfl, 0, _, by rw [alloc_eq_grow, alloc_eq_grow, grow_grow]; rfl⟩
theorem flatK_imc (d : Array Im) : (flatK imc 2 d).toList = (d.toList.map imc).flatten := by
  apply List.ext_getElem?
  intro t
  by_cases ht : t < d.size * 2
  · have h1 : (flatK imc 2 d)[t]! = (imc d[t / 2]!)[t % 2]! := get_flatK imc 2 d t ht
    have hi : t / 2 < d.toList.length := by simp; omega
    have h2 := flat_get imc 2 (fun _ => rfl) d.toList (t / 2) hi (t % 2) (by omega)
    rw [show t / 2 * 2 + t % 2 = t by omega] at h2
    have h3 : t < (flatK imc 2 d).size := by rw [size_flatK]; exact ht
    have h5 : t / 2 < d.size := by omega
    rw [h2, Array.getElem?_toList, Array.getElem?_eq_getElem h3]
    rw [getElem!_pos (flatK imc 2 d) t h3] at h1
    rw [h1, getElem!_pos d (t / 2) h5]
    have h4 : t % 2 < (imc d[t / 2]).length := by simp [imc]; omega
    rw [getElem!_pos (imc d[t / 2]) (t % 2) h4]
    simp
  · rw [List.getElem?_eq_none (by simp; omega), List.getElem?_eq_none (by rw [flat_len imc 2 (fun _ => rfl)]; simp; omega)]
theorem take_put (cur F : Array Value) (h : F.size ≤ cur.size) : (putCells id 0 F cur).toList.take F.size = F.toList := by
  apply List.ext_getElem?
  intro j
  by_cases hj : j < F.size
  · rw [List.getElem?_take_of_lt hj, Array.getElem?_toList, Array.getElem?_toList]
    simp [putCells, hj, show j < cur.size by omega]
  · rw [List.getElem?_take_eq_none (by omega), List.getElem?_eq_none (by simp; omega)]
/-- By rising numbers. -/
theorem sortIm_v {w : World} {B : Nat} {v : Value} {Y : List Im} (h : OImgs w B v Y) (hv : v ≠ .slice none 0 0) (hl : Y.length < 4611686018427387904) :
    Calls Tryd.prog 22 #[v, .func (.func 23) #[] #[]] w fun e w' => e = .returned (.tuple #[]) ∧ ∃ Y', Y'.Perm Y ∧ Y'.Pairwise (fun a b => a.blk ≤ b.blk) ∧ OImgs w' B v Y' ∧ w.grownBy w' v.ownBlock := by
  rcases h.row.2 with ⟨e0, _⟩ | ⟨g, cap, cur, rfl, hb, hg, h1, h2, h3, h4⟩
  · exact absurd e0 hv
  have hgl : g < w.heap.size := (Array.getElem?_eq_some_iff.1 hg).1
  have hYs : (Y.toArray : Array Im).size = Y.length := by simp
  have hF : (flatK imc 2 Y.toArray).toList = (Y.map imc).flatten := flatK_imc _
  have hH : HoldsK imc 2 w g 0 Y.toArray := fun j hj => by
    refine ⟨?_, frozen_of_row w g _ _ _ hg⟩
    have hj2 : j < (flatK imc 2 Y.toArray).toList.length := by simpa using hj
    rw [cell_of_row _ _ _ _ _ _ hg, Nat.zero_add, getElem!_pos _ j (by simpa using hj)]
    have e1 : (cur.toList.take (Y.length * 2))[j]? = (flatK imc 2 Y.toArray).toList[j]? := by rw [hF]; exact congrArg (fun l => l[j]?) h4
    have hj3 : j < Y.length * 2 := by simpa using hj
    rw [List.getElem?_take_of_lt hj3] at e1
    rw [← Array.getElem?_toList, e1, List.getElem?_eq_getElem hj2]
    simp
  have eg : ∀ args w, (callFunc 23 args).run Tryd.prog w = .ok (.enter 23 args) w := enters_of Tryd.func23 (by kernel_rfl) rfl
  have hcon := AnyQ.slices_SortFunc laysIm 2 Tryd.isAgg36 Tryd.sizeOf36 imc (fun _ => rfl) one_imc cmpI swo_cmpI 23 #[] g 0 cap Y.toArray w eg (fun _ _ _ _ x y => clos_any x y _) hH hgl (by simpa using hl)
  rw [renIm] at hcon
  rw [hYs] at hcon
  refine hcon.mono ?_
  rintro e w' ⟨rfl, d', n, os, hp, hs, rfl⟩
  have hsz : d'.size = Y.length := by rw [hp.1, hYs]
  have hperm : d'.toList.Perm Y := by
    have := hp.2.2
    rw [show d'.extract 0 Y.length = d' by rw [← hsz]; simp, show (Y.toArray).extract 0 Y.length = Y.toArray by simp] at this
    simpa using this
  have hgr : w.grownBy (sortWorldK imc 2 w g 0 n d' os) (some g) := by
    refine ⟨rfl, rfl, rfl, by simp [sortWorldK, putRowK], fun k hk hne => ?_⟩
    unfold sortWorldK putRowK
    rw [heap_grow_old _ _ (by simpa using hk)]
    have : g ≠ k := fun e => hne (by rw [e])
    simp [putRow, mapBlock, Sort.ahead, Array.getElem?_modify, this]
  have hrow : (sortWorldK imc 2 w g 0 n d' os).heap[g]? = some (.cells (putCells id 0 (flatK imc 2 d') cur) 36 (0, 0)) := by
    unfold sortWorldK putRowK
    rw [heap_grow_old _ _ (by simpa using hgl)]
    simp [putRow, mapBlock, Sort.ahead, Array.getElem?_modify, hg, onCells]
  refine ⟨rfl, d'.toList, hperm, ?_, ⟨?_, fun m hm => ?_⟩, hgr⟩
  · rw [List.pairwise_iff_getElem]
    intro i j hi hj hij
    have hi' : i < d'.size := by simpa using hi
    have hj' : j < d'.size := by simpa using hj
    have := hs i j (Nat.zero_le _) hij (by rw [← hsz]; exact hj')
    rw [lt_cmpI, getElem!_pos d' i hi', getElem!_pos d' j hj'] at this
    simp only [decide_eq_false_iff_not] at this
    simp only [Array.getElem_toList]
    omega
  · have hsf : (flatK imc 2 d').size = Y.length * 2 := by rw [size_flatK, hsz]
    have hle : Y.length * 2 ≤ cur.size := by rw [h3]; exact Nat.mul_le_mul_right 2 h1
    have e1 : d'.toList.length = Y.length := by simpa using hsz
    rw [e1]
    refine ⟨by rw [flat_len imc 2 (fun _ => rfl), e1], .inr ⟨g, cap, _, rfl, hb, hrow, h1, h2, by simp [putCells, h3], ?_⟩⟩
    rw [← hsf, take_put _ _ (by omega), flatK_imc]
  · have o := h.byt m (hperm.mem_iff.1 hm)
    exact o.grown h.row (by decide) hgr
end Go.Proofs.YteaejodihmnbcaaDoor
namespace Go.Proofs.YteaejodihmnbcaaDoor
set_option maxRecDepth 100000
set_option linter.unusedVariables false
open Go.RowKit Go.MapKept Plain
section
variable {P : Program} {ops : Array Oper} {rest : List Oper} {o : Oper} {a : Act} {w : World} {Q : Exit → Act → World → Prop}
theorem wpList_putM (hg : o.guard = none) (t k e : TypeId) (ht : P.underlying t = some (.map k e)) (hk : P.underlying k = some (.int .u64)) (m x v : Operand) (hop : o.op = Op.mapUpdate t m x v) (b : Nat) (M : List (Int × Im)) (i : Int) (u : Im) (hm : a.eval m = .map (some b)) (hx : a.eval x = .int .u64 i) (hv : a.eval v = .agg (imc u).toArray) (h : Mp w b M)
    (hK : ∀ w', Mp w' b (mput M i u) → But b w w' → wpList P ops Q rest (a.put o.dst undef) w') : wpList P ops Q (o :: rest) a w := by
  refine wpList_plain hg fun K' hK' => ?_
  obtain ⟨w', hrun, r1, r2, r3⟩ := h.put ht hk i u
  unfold Oper.wp
  simp [execOp, hop, hm, hx, hv, hrun, Result.andThen]
  exact hK' _ _ (hK w' r1 r2)
theorem wpList_lenM (hg : o.guard = none) (t k e : TypeId) (ht : P.underlying t = some (.map k e)) (m : Operand) (hop : o.op = Op.call { callee := Callee.builtin Builtin.len, args := #[m], argTypes := #[t] }) (b : Nat) (M : List (Int × Im)) (hm : a.eval m = .map (some b)) (h : Mp w b M)
    (hK : wpList P ops Q rest (a.put o.dst (.int .i64 (M.length : Int))) w) : wpList P ops Q (o :: rest) a w := by
  refine wpList_plain hg fun K' hK' => ?_
  obtain ⟨es, clock, h1, h2⟩ := h
  have hl : es.size = M.length := by have := congrArg List.length h2.kv; simpa using this
  have hr : (Builtin.len_ #[t] o.type #[.map (some b)]).run P w = .ok (.int .i64 (M.length : Int)) w := by
    simp [Builtin.len_, run_underlying ht, MapKept.run_getObj_map h1, goInt, hl]
  unfold Oper.wp
  simp [execOp, hop, resolve, invoke, builtin, hm, hr, Result.andThen]
  exact hK' _ _ hK
theorem wpList_rangeM (hg : o.guard = none) (t k e : TypeId) (ht : P.underlying t = some (.map k e)) (m : Operand) (hop : o.op = Op.range t m) (b : Nat) (M : List (Int × Im)) (hm : a.eval m = .map (some b)) (h : Mp w b M)
    (hK : ∀ w', Rg w' b w.heap.size M [] → Below w.heap.size w w' → wpList P ops Q rest (a.put o.dst (.pointer (some ⟨w.heap.size, 0, none⟩))) w') : wpList P ops Q (o :: rest) a w := by
  refine wpList_plain hg fun K' hK' => ?_
  obtain ⟨w', hrun, r1, r2, r3⟩ := h.range (P := P) ht
  unfold Oper.wp
  simp [execOp, hop, hm, hrun, Result.andThen]
  exact hK' _ _ (hK w' r1 r2)
end
/-- What a step does hangs on no type. -/
theorem next_ty {P : Program} {w : World} {r b since c0 clock : Nat} {seen : Array Nat} {es : Array MapEntry} (hr : w.heap[r]? = some (.mapIter (some b) since seen c0)) (hb : w.heap[b]? = some (.map es clock)) (ty ty' : TypeId) : (Instr.next (.pointer (some ⟨r, 0, none⟩)) false ty).run P w = (Instr.next (.pointer (some ⟨r, 0, none⟩)) false ty').run P w := by
  simp only [Instr.next, getObj, Sem.run_bind, Sem.run, hr, hb, Result.andThen]
theorem Rg.next2 {w : World} {b r : Nat} {m dn : List (Int × Im)} (h : Rg w b r m dn) {P : Program} :
    ((dn.map kv).Perm (m.map kv) ∧ ∀ ty, (Instr.next (.pointer (some ⟨r, 0, none⟩)) false ty).run P w = .ok (.tuple #[.bool false]) w) ∨
    ∃ p w', p ∈ m ∧ (∀ ty, (Instr.next (.pointer (some ⟨r, 0, none⟩)) false ty).run P w = .ok (.tuple #[.bool true, .int .u64 p.1, .agg (imc p.2).toArray]) w') ∧ Rg w' b r m (dn ++ [p]) ∧ But r w w' ∧ w'.heap.size = w.heap.size ∧ (Instr.entry (.pointer (some ⟨r, 0, none⟩))).run P w' = .ok (.tuple #[.int .u64 p.1, .agg (imc p.2).toArray]) w' ∧ w'.rangeLeft b r < w.rangeLeft b r := by
  have h' := h
  obtain ⟨es, clock, since, seen, c0, de, q1, q2, q3, _⟩ := h
  rcases h'.next (P := P) 0 with ⟨h1, h2⟩ | ⟨p, w', h1, h2, h3⟩
  · exact .inl ⟨h1, fun ty => (next_ty q3 q1 ty 0).trans h2⟩
  · exact .inr ⟨p, w', h1, fun ty => (next_ty q3 q1 ty 0).trans h2, h3⟩
/-- What is in a map's pairs. -/
theorem perm_pl {dn m : List (Int × Im)} (h : (dn.map kv).Perm (m.map kv)) (hd : ∀ p ∈ dn, p ∈ m) (hn : (m.map Prod.fst).Nodup) (hk : (dn.map Prod.fst).Nodup) : dn.Perm m := by
  have n1 := nodup_of_keys _ hk
  have n2 := nodup_of_keys _ hn
  refine (List.perm_ext_iff_of_nodup n1 n2).2 fun p => ⟨hd p, fun hp => ?_⟩
  have : kv p ∈ dn.map kv := h.mem_iff.2 (List.mem_map_of_mem hp)
  obtain ⟨q, hq, e⟩ := List.mem_map.1 this
  have e1 : q.1 = p.1 := by have := congrArg Prod.fst e; simpa [kv] using this
  have hqm := hd q hq
  have key : ∀ L : List (Int × Im), (L.map Prod.fst).Nodup → ∀ x ∈ L, ∀ y ∈ L, x.1 = y.1 → x = y := by
    intro L
    induction L with
    | nil => intro _ x hx; simp at hx
    | cons z L ih =>
      intro hN x hx y hy exy
      have hN' := List.nodup_cons.1 hN
      rcases List.mem_cons.1 hx with e1 | hx2
      · rcases List.mem_cons.1 hy with e2 | hy2
        · rw [e1, e2]
        · exact absurd (List.mem_map_of_mem (f := Prod.fst) hy2) (by rw [← exy, e1]; exact hN'.1)
      · rcases List.mem_cons.1 hy with e2 | hy2
        · exact absurd (List.mem_map_of_mem (f := Prod.fst) hx2) (by rw [exy, e2]; exact hN'.1)
        · exact ih hN'.2 x hx2 y hy2 exy
  rw [← key m hn q hqm p hp e1]
  exact hq
theorem keys_of_kv {dn m : List (Int × Im)} (h : (dn.map kv).Perm (m.map kv)) (hn : (m.map Prod.fst).Nodup) : (dn.map Prod.fst).Nodup := by
  have key : ∀ L : List (Int × Im), (L.map Prod.fst) = (L.map kv).map (fun x => match x.1 with | .int _ i => i | _ => 0) := fun L => by
    rw [List.map_map]
    rfl
  rw [key] at hn ⊢
  exact (h.map _).nodup_iff.2 hn
end Go.Proofs.YteaejodihmnbcaaDoor
namespace Go.Proofs.YteaejodihmnbcaaDoor
set_option maxRecDepth 100000
set_option linter.unusedVariables false
open Go.RowKit Plain
attribute [local go_sem] Oper.semAt_some
/-- All images of changes. -/
def allM (C : List Sx) : List Im := (C.map (·.M)).flatten
theorem allM_take (C : List Sx) (k : Nat) (hk : k < C.length) : allM (C.take (k + 1)) = allM (C.take k) ++ C[k].M := by
  rw [List.take_succ_eq_append_getElem hk]
  simp only [allM, List.map_append, List.map_cons, List.map_nil, List.flatten_append, List.flatten_cons, List.flatten_nil, List.append_nil]
/-- So far: what was put. -/
structure LtK (w wr : World) (g : Nat) (M : List Im) : Prop where
  mp : Mp wr g (mF M)
  bel : Below w.heap.size w wr
theorem LtK.step {w wr x w' : World} {g : Nat} {M : List Im} (h : LtK w wr g M) (hb : Below wr.heap.size wr x) (m : Im) (hm : Mp w' g (mput (mF M) m.blk m)) (hbt : But g x w') (hg : w.heap.size ≤ g) : LtK w w' g (M ++ [m]) := by
  refine ⟨by rw [mF_snoc]; exact hm, ?_⟩
  have hl := below_to h.bel hb
  exact ⟨hbt.os.trans hl.os, hbt.tape.trans hl.tape, hbt.output.trans hl.output, Nat.le_trans hl.size hbt.size, fun k hk => (hbt.block k (Nat.lt_of_lt_of_le hk hl.size) (by omega)).trans (hl.block k hk)⟩
/-- So far: what was told, in the order in which it came. -/
structure LrK (w w1 wr : World) (g r : Nat) (m dn : List (Int × Im)) (v : Value) (Y : List Im) : Prop where
  rg : Rg wr g r m dn
  im : OImgs wr w1.heap.size v Y
  pls : Y.map pl = dn.map (fun p => (p.1, p.2.bs))
  mem : ∀ p ∈ dn, p ∈ m
  nn : v ≠ .slice none 0 0
  bel : Below w.heap.size w wr
  lo : w.heap.size ≤ w1.heap.size ∧ w1.heap.size ≤ wr.heap.size ∧ w1.heap.size ≤ r ∧ w.heap.size ≤ g ∧ g < w1.heap.size
theorem map_ne {w : World} {B n g : Nat} {e : TypeId} {sz : Nat} {v : Value} {xs : List Value} {es : Array MapEntry} {c : Nat} (h : w.ownsRow B e sz v n xs) (hg : w.heap[g]? = some (.map es c)) : some g ≠ v.ownBlock := fun e' => by
  obtain ⟨_, cur, h2⟩ := own_blk h g e'.symm
  rw [hg] at h2
  cases h2
theorem iter_ne {w : World} {B n g : Nat} {e : TypeId} {sz : Nat} {v : Value} {xs : List Value} {a : Option Nat} {b c : Nat} {s : Array Nat} (h : w.ownsRow B e sz v n xs) (hg : w.heap[g]? = some (.mapIter a b s c)) : some g ≠ v.ownBlock := fun e' => by
  obtain ⟨_, cur, h2⟩ := own_blk h g e'.symm
  rw [hg] at h2
  cases h2
theorem Rg.ne {w : World} {b r : Nat} {m dn : List (Int × Im)} (h : Rg w b r m dn) {B n : Nat} {e : TypeId} {sz : Nat} {v : Value} {xs : List Value} (ho : w.ownsRow B e sz v n xs) : some b ≠ v.ownBlock ∧ some r ≠ v.ownBlock := by
  obtain ⟨es, clock, since, seen, c0, de, q1, q2, q3, q4⟩ := h
  exact ⟨map_ne ho q1, iter_ne ho q3⟩
/-- The step's own turn leaves the row. -/
theorem LrK.mid {w w1 wr x : World} {g r : Nat} {m dn : List (Int × Im)} {v : Value} {Y : List Im} (h : LrK w w1 wr g r m dn v Y) (hb : But r wr x) : OImgs x w1.heap.size v Y ∧ Below w.heap.size w x := by
  have hne := h.rg.ne h.im.row
  refine ⟨⟨own_same h.im.row (fun k hk => hb.block k (h.im.row.lt k hk).2 (fun e => hne.2 (by rw [← e]; exact hk.symm))), fun y hy => ?_⟩, ?_⟩
  · have o := h.im.byt y hy
    have hn2 := h.rg.ne o.own
    exact ⟨own_same o.own (fun k hk => hb.block k (o.own.lt k hk).2 (fun e => hn2.2 (by rw [← e]; exact hk.symm))), o.byt, o.num⟩
  · have hl := h.bel
    have := h.lo
    exact ⟨hb.os.trans hl.os, hb.tape.trans hl.tape, hb.output.trans hl.output, Nat.le_trans hl.size hb.size, fun k hk => (hb.block k (Nat.lt_of_lt_of_le hk hl.size) (by omega)).trans (hl.block k hk)⟩
theorem LrK.step {w w1 wr x y w' : World} {g r : Nat} {m dn : List (Int × Im)} {v v' : Value} {Y : List Im} (h : LrK w w1 wr g r m dn v Y) (hb : But r wr x) (p : Int × Im) (hp : p ∈ m) (hr : Rg x g r m (dn ++ [p])) (hy : Below x.heap.size x y) (a : Option Addr) (c : Nat) (n : Nat) (hn : n = p.2.bl) (ho : y.ownsRow x.heap.size 5 1 (.slice a n c) n (p.2.bs.map (Value.int .u8))) (hbt : Byt p.2.bs) (hnum : N64 p.1) (hw : w'.ownsRow w1.heap.size 36 2 v' (Y.length + 1) ((Y.map imc).flatten ++ [.int .u64 p.1, .slice a n c])) (hg : y.grownBy w' v.ownBlock) (hnn : v' ≠ .slice none 0 0) : LrK w w1 w' g r m (dn ++ [p]) v' (Y ++ [⟨p.1, a, n, c, p.2.bs⟩]) := by
  obtain ⟨m1, m2⟩ := h.mid hb
  have m3 := m1.to hy
  have hlo := h.lo
  have hbs := hb.size
  have hys := hy.size
  have hgs := hg.size
  have hry := hr.same (hy.block g hr.lt.1) (hy.block r hr.lt.2.1)
  have hne := hry.ne m3.row
  refine ⟨hry.same (hg.block g hry.lt.1 hne.1) (hg.block r hry.lt.2.1 hne.2), ⟨?_, fun z hz => ?_⟩, ?_, fun q hq => ?_, hnn, ?_, by omega⟩
  · rw [List.map_append, List.flatten_append]
    simpa [imc] using hw
  · rcases List.mem_append.1 hz with hz | hz
    · exact (m3.byt z hz).grown m3.row (by decide) hg
    · simp only [List.mem_cons, List.not_mem_nil, or_false] at hz
      subst hz
      exact (OIm.low (B := x.heap.size) (m := ⟨p.1, a, n, c, p.2.bs⟩) ⟨ho, hbt, hnum⟩ (by omega)).grown m3.row (by decide) hg
  · rw [List.map_append, List.map_append, h.pls]
    simp [pl]
  · rcases List.mem_append.1 hq with hq | hq
    · exact h.mem q hq
    · simp only [List.mem_cons, List.not_mem_nil, or_false] at hq
      rw [hq]; exact hp
  · have hl := below_to m2 hy
    exact hl.grown hg hl.size (fun j hj => by have := (own_blk m3.row j hj).1; omega)
theorem LrK.fin {w w1 wr : World} {g r : Nat} {M : List Im} {dn : List (Int × Im)} {v : Value} {Y : List Im} (h : LrK w w1 wr g r (mF M) dn v Y) (hp : (dn.map kv).Perm ((mF M).map kv)) {Y' : List Im} (hY : Y'.Perm Y) (hs : Y'.Pairwise (fun a b => a.blk ≤ b.blk)) : Y'.map pl = latP (M.map pl) := by
  have hmr := mr_mF M
  have hdm := perm_pl hp h.mem hmr.nd (keys_of_kv hp hmr.nd)
  refine sorted_lat hmr ?_ ?_
  · have e1 : (mF M).map (fun p => pl p.2) = (mF M).map (fun p => (p.1, p.2.bs)) := List.map_congr_left (fun p hp => by rw [hmr.key p hp]; rfl)
    rw [e1]
    refine (hY.map pl).trans ?_
    rw [h.pls]
    exact hdm.map _
  · rw [List.pairwise_map]
    exact hs
theorem app_nn {w : World} {B n : Nat} {e : TypeId} {sz : Nat} {v : Value} {xs : List Value} (h : w.ownsRow B e sz v (n + 1) xs) : v ≠ .slice none 0 0 := by
  rcases h.2 with ⟨_, h0⟩ | ⟨g, cap, cur, rfl, _⟩
  · omega
  · exact fun e => by cases e
theorem infoImSz : (Tryd.prog.info? 36).map (·.size) = some 2 := infoIm
end Go.Proofs.YteaejodihmnbcaaDoor
