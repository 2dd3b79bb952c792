/-
  Images in memory; what takes of package vault answers. And what follows it.
-/
import Derived.BigQuiet
import Derived.Test.YthbbijaikcmaeaaGreatDoorX26
import Derived.Ground.NamesProg
import Derived.Ground.Names2Prog
import Derived.Shelf.Lay
import Derived.Shelf.Sort.Plain
import Derived.Shelf.Slices.CompactI
import Derived.Sort.OwnSortedInts
import Derived.Lib.OwnBridge
namespace Go.Proofs.YthbbijaikcmaeaaGreatDoor
set_option maxRecDepth 100000
set_option linter.unusedVariables false
set_option maxRecDepth 100000
open Go.RowKit Go.Shelf Plain Go.Proofs.YthbbijaikcmaeaaGreatDoor.Shap.Plain
structure Im where
  blk : Int
  ba : Option Addr
  bl : Nat
  bc : Nat
  bs : List Int
def imc (m : Im) : List Value := [.int .u64 m.blk, .slice m.ba m.bl m.bc]
structure Imgs (w : World) (a : Option Addr) (M : List Im) : Prop where
  row : 0 < M.length → ∃ b o, a = some ⟨b, o, none⟩ ∧ b < w.heap.size ∧ ∀ i (h : i < M.length), w.rangeAt b (o + i * 2) (imc M[i])
  byt : ∀ m ∈ M, Bytes w m.ba m.bl m.bs ∧ 0 ≤ m.blk ∧ m.blk ≤ 18446744073709551615 ∧ m.bl ≤ maxLen
theorem Imgs.below {w w' : World} {a : Option Addr} {M : List Im} (h : Imgs w a M) (hb : Below w.heap.size w w') : Imgs w' a M := by
  refine ⟨fun hp => ?_, fun m hm => ⟨(h.byt m hm).1.below hb, (h.byt m hm).2⟩⟩
  obtain ⟨b, o, e, hlt, hr⟩ := h.row hp
  exact ⟨b, o, e, Nat.lt_of_lt_of_le hlt hb.size, fun i hi => range_below hb (hr i hi) hlt⟩
theorem zeroIm : (Tryz.prog.info? 41).map (·.zero) = some (some (.agg #[.int .u64 0, .slice none 0 0])) := by kernel_rfl
theorem infoIm : (Tryz.prog.info? 41).map (·.size) = some 2 := by kernel_rfl
theorem wpList_newRow {ops : Array Oper} {rest : List Oper} {o : Oper} {a : Act} {v : World} {Q : Exit → Act → World → Prop} {u : TypeId} (w : World) (Z C : Array Value) (hi : (Tryz.prog.info? u).map (·.size) = some C.size) (hZ : Z.size = C.size) (h1 : C.all (·.oneCell') = true) (hgd : o.guard = none) (x y : Operand) (ho : o.op = .store u x y)
    (hx : a.eval x = .pointer (some ⟨w.heap.size, 0, none⟩)) (hy : a.eval y = .agg C) (hv : v = w.alloc (.cells Z u))
    (h : ∀ z, z.heap[w.heap.size]? = some (.cells C u (0, 0)) → Below w.heap.size w z → wpList Tryz.prog ops Q rest (a.put o.dst undef) z) : wpList Tryz.prog ops Q (o :: rest) a v := by
  subst hv
  exact wpList_store_row hgd u x y ho w.heap.size C hx hy u Z (al_at rfl) hi hZ h1 (h _ (setRow_heap _ _ _ _ _ _ (al_at rfl)) (below_setRow ((Below.refl _ _).alloc (Nat.le_refl _) _) (Nat.le_refl _) _))
theorem exec_idxIm {op : Oper} {ρ : Operand → Value} {w' : World} (x y : Operand) (ho : op.op = .indexAddr 24 x y) (b o len cap j : Nat) (hx : ρ x = .slice (some ⟨b, o, none⟩) len cap) (hy : ρ y = .int .i64 (j : Int)) (hj : j < len) :
    (execOp ρ op).run Tryz.prog w' = .ok (.value (.pointer (some ⟨b, o + j * 2, none⟩))) w' := by
  have hc : (0 : Int) ≤ (j : Int) ∧ (j : Int) < (len : Int) := by omega
  have hs : (sizeOf 41).run Tryz.prog w' = .ok 2 w' := by kernel_rfl
  unfold execOp
  simp [ho, hx, hy, Instr.indexAt, asIntOf, Sem.run_bind, run_underlying Tryz.underlying24, hc, Addr.add_mid]
  intro hh; omega
theorem atIdx {P : Program} {ops : Array Oper} {Q : Exit → Act → World → Prop} {rest : List Oper} {a : Act} {w : World} (t : TypeId) {x y : Operand} {d : Option Tmp} {ty : TypeId} {p : String} {af : Array Edge} {g : Option (Nat × Bool)} (h : wpList P ops Q ({ dst := d, op := .indexAddr t x y, type := ty, pos := p, after := af, guard := g } :: rest) a w) : wpList P ops Q ({ dst := d, op := .indexAddr t x y, type := ty, pos := p, after := af, guard := g } :: rest) a w := h
theorem below_drewN {B : Nat} {w x : World} (h : Below B w x) (n : Nat) : Below B w (x.drewN n) := ⟨h.os, h.tape, h.output, h.size, h.block⟩
def tk (n : Nat) (M : List Im) : Int := if M.any (fun m => decide (m.bl ≠ 160)) = true then 1 else if M.any (fun m => decide ((n : Int) ≤ m.blk)) = true then 12 else 0
theorem any_take {α : Type} (p : α → Bool) (M : List α) (k : Nat) (hk : k < M.length) (h : (M.take k).any p = false) (hp : p M[k] = false) : (M.take (k + 1)).any p = false := by
  rw [List.take_succ_eq_append_getElem hk, List.any_append, h]
  simp [hp]
theorem any_at {α : Type} (p : α → Bool) (M : List α) (k : Nat) (hk : k < M.length) (hp : p M[k] = true) : M.any p = true := List.any_eq_true.2 ⟨_, List.getElem_mem hk, hp⟩
set_option maxHeartbeats 2000000 in
theorem takes_v {w0 w : World} {V D : Nat} {fp : Nat → Prop} {v : Vt} {d : Disk.Dk} {sa : Option Addr} {sc : Nat} (C : VC w0 w V D fp v d sa sc) (a : Option Addr) (cap : Nat) (M : List Im) (hM : Imgs w a M) (hl : M.length ≤ 1000000) :
    Calls Tryz.prog 26 #[.pointer (some ⟨V, 0, none⟩), .slice a M.length cap] w fun e w' => e = .returned (.int .i64 (tk v.n M)) ∧ Below w.heap.size w w' := by
  have HM : Box (∀ x, Below w.heap.size w x → Imgs x a M) := ⟨fun x hx => hM.below hx⟩
  have HV : Box (∀ x, Below w.heap.size w x → x.cell? ⟨V, 33, none⟩ = some (.int .u64 (v.n : Int))) := ⟨fun x hx => (C.below hx).rd.leaves⟩
  clear hM C
  go_enter Tryz.func26, Tryz.ntmps26
  go_wp2
  go_loopw [11] (fun i wr => ∃ k : Nat, k ≤ M.length ∧ i = .int .i64 (k : Int) ∧ Box ((M.take k).any (fun m => decide (m.bl ≠ 160)) = false ∧ Below w.heap.size w wr)) (fun i _ => M.length - (intOf i).toNat)
  case atStart => exact ⟨0, Nat.zero_le _, rfl, ⟨by simp, Below.refl _ _⟩⟩
  case round =>
    obtain ⟨k, hk, rfl, HB⟩ := hrel
    by_cases hlt : k < M.length
    · have hlt1 : decide ((k : Int) < (M.length : Int)) = true := by simp; omega
      have hm := HM.out wr HB.out.2
      obtain ⟨b, o, e, hbl, hr⟩ := hm.row (by omega)
      subst e
      have hrk := hr k hlt
      have hbk := hm.byt M[k] (List.getElem_mem hlt)
      have HR : Box (wr.rangeAt b (o + k * 2) (imc M[k]) ∧ b < wr.heap.size) := ⟨hrk, hbl⟩
      have hw4 : IntKind.i64.wrap ((k : Int) + 1) = ((k + 1 : Nat) : Int) := by rw [IntKind.wrap_i64]; omega
      have HML : Box (k < M.length) := ⟨hlt⟩
      obtain ⟨m, hmm⟩ : ∃ m, M[k] = m := ⟨_, rfl⟩
      rw [hmm] at hbk
      simp only [hmm] at HR
      have HMM : Box (M[k] = m) := ⟨hmm⟩
      have hml := hbk.2.2.2
      unfold maxLen at hml
      clear hr hrk hbl hm hbk hmm
      go_upto_region 4 with (first
        | (refine atIdx _ ?_; refine wpList_run rfl _ _ (exec_idxIm (.tmp 9) (.tmp 11) rfl b o M.length cap k rfl rfl HML.out) ?_)
        | (refine atLoad 41 ?_; refine wpList_ldMid rfl 41 _ _ rfl Tryz.underlying41 rfl b (o + k * 2) rfl (imc m) infoIm HR.out.1 ?_)
        | (refine atAlloc _ ?_; refine wpList_run rfl _ _ (exec_alloc 41 rfl _ zeroIm) ?_)
        | (refine atStore _ ?_; refine wpList_newRow wr #[.int .u64 0, .slice none 0 0] (imc m).toArray infoIm rfl (by simp [imc, Value.oneCell']) rfl _ _ rfl rfl rfl rfl ?_; intro x1 h1 hb1; have c1 : x1.cell? ⟨wr.heap.size, 1, none⟩ = some (.slice m.ba m.bl m.bc) := (by rw [cell_of_row _ _ _ _ _ _ h1]; rfl); have HX : Box (Below wr.heap.size wr x1) := ⟨hb1⟩; clear h1 hb1))
      by_cases hb : m.bl = 160
      · have hb2 : ((m.bl : Int) == 160) = true := by simp [hb]
        go_wp2
        go_roundw
        case rel => exact ⟨k + 1, HML.out, rfl, ⟨any_take _ M k HML.out HB.out.1 (by rw [HMM.out]; simp [hb]), below_to HB.out.2 HX.out⟩⟩
        case measure => simp [intOf]; have := HML.out; omega
      · have hb2 : ((m.bl : Int) == 160) = false := by simp; omega
        have htk : tk v.n M = 1 := by
          unfold tk
          rw [if_pos (any_at _ M k HML.out (by rw [HMM.out]; simp [hb]))]
        have HTK : Box (tk v.n M = 1) := ⟨htk⟩
        clear htk
        go_wp2
        go_ret
        exact ⟨by rw [HTK.out]; rfl, below_to HB.out.2 HX.out⟩
    · obtain rfl : k = M.length := by omega
      have hlt1 : decide ((M.length : Int) < (M.length : Int)) = false := by simp
      have HA : Box (M.any (fun m => decide (m.bl ≠ 160)) = false ∧ Below w.heap.size w wr) := ⟨by have := HB.out.1; rwa [List.take_length] at this, HB.out.2⟩
      clear HB
      go_wp2
      obtain ⟨x0, hx0⟩ : ∃ x0, wr = x0 := ⟨_, rfl⟩
      go_loopw [22] (fun i wr => ∃ k : Nat, k ≤ M.length ∧ i = .int .i64 (k : Int) ∧ Box ((M.take k).any (fun m => decide ((v.n : Int) ≤ m.blk)) = false ∧ Below w.heap.size w wr)) (fun i _ => M.length - (intOf i).toNat)
      case atStart => exact ⟨0, Nat.zero_le _, rfl, ⟨by simp, HA.out.2⟩⟩
      case round =>
        clear hx0 hlt1
        obtain ⟨k, hk, rfl, HB⟩ := hrel
        by_cases hlt : k < M.length
        · have hlt1 : decide ((k : Int) < (M.length : Int)) = true := by simp; omega
          have hm := HM.out wr HB.out.2
          obtain ⟨b, o, e, hbl, hr⟩ := hm.row (by omega)
          subst e
          have hrk := hr k hlt
          have hbk := hm.byt M[k] (List.getElem_mem hlt)
          have HR : Box (wr.rangeAt b (o + k * 2) (imc M[k]) ∧ b < wr.heap.size) := ⟨hrk, hbl⟩
          have hw4 : IntKind.i64.wrap ((k : Int) + 1) = ((k + 1 : Nat) : Int) := by rw [IntKind.wrap_i64]; omega
          have HML : Box (k < M.length) := ⟨hlt⟩
          obtain ⟨m, hmm⟩ : ∃ m, M[k] = m := ⟨_, rfl⟩
          rw [hmm] at hbk
          simp only [hmm] at HR
          have HMM : Box (M[k] = m) := ⟨hmm⟩
          clear hr hrk hbl hm hbk hmm
          go_upto_region 10 with (first
            | (refine atIdx _ ?_; refine wpList_run rfl _ _ (exec_idxIm (.tmp 20) (.tmp 22) rfl b o M.length cap k rfl rfl HML.out) ?_)
            | (refine atLoad 41 ?_; refine wpList_ldMid rfl 41 _ _ rfl Tryz.underlying41 rfl b (o + k * 2) rfl (imc m) infoIm HR.out.1 ?_)
            | (refine atAlloc _ ?_; refine wpList_run rfl _ _ (exec_alloc 41 rfl _ zeroIm) ?_)
            | (refine atStore _ ?_; refine wpList_newRow wr #[.int .u64 0, .slice none 0 0] (imc m).toArray infoIm rfl (by simp [imc, Value.oneCell']) rfl _ _ rfl rfl rfl rfl ?_; intro x1 h1 hb1; have c1 : x1.cell? ⟨wr.heap.size, 0, none⟩ = some (.int .u64 m.blk) := (by rw [cell_of_row _ _ _ _ _ _ h1]; rfl); have HX : Box (Below w.heap.size w x1) := ⟨below_to HB.out.2 hb1⟩; have cv : x1.cell? ⟨V, 33, none⟩ = some (.int .u64 (v.n : Int)) := HV.out x1 HX.out; clear h1 hb1))
          by_cases hb : (v.n : Int) ≤ m.blk
          · have hb2 : decide ((v.n : Int) ≤ m.blk) = true := by simpa using hb
            have htk : tk v.n M = 12 := by
              unfold tk
              rw [HA.out.1, if_neg (by simp), if_pos (any_at _ M k HML.out (by rw [HMM.out]; simp [hb]))]
            have HTK : Box (tk v.n M = 12) := ⟨htk⟩
            clear htk
            go_quiet (fail)
            go_wp2
            go_ret
            exact ⟨by rw [HTK.out]; rfl, below_drewN HX.out _⟩
          · have hb2 : decide ((v.n : Int) ≤ m.blk) = false := by simpa using hb
            go_quiet (fail)
            go_wp2
            go_roundw
            case rel => exact ⟨k + 1, HML.out, rfl, ⟨any_take _ M k HML.out HB.out.1 (by rw [HMM.out]; simp [hb]), below_drewN HX.out _⟩⟩
            case measure => simp [intOf]; have := HML.out; omega
        · obtain rfl : k = M.length := by omega
          have hlt1 : decide ((M.length : Int) < (M.length : Int)) = false := by simp
          have htk : tk v.n M = 0 := by
            have := HB.out.1
            rw [List.take_length] at this
            unfold tk
            rw [HA.out.1, this]
            simp
          have HTK : Box (tk v.n M = 0) := ⟨htk⟩
          clear htk
          go_wp2
          go_ret
          exact ⟨by rw [HTK.out]; rfl, HB.out.2⟩
end Go.Proofs.YthbbijaikcmaeaaGreatDoor
namespace Go.Proofs.YthbbijaikcmaeaaGreatDoor
set_option maxRecDepth 100000
set_option linter.unusedVariables false
open Go.RowKit Go.Shelf Go.Sort Plain Go.Proofs.YthbbijaikcmaeaaGreatDoor.Shap.Plain
shelf_lay Lays.n189 Nm 189 at Tryz as laysSort
shelf_lay Lays2.n20 Nm2 20 at Tryz as laysCompact
theorem renSort : laysSort_ren.f 189 = 47 := by kernel_rfl
theorem renCompact : laysCompact_ren.f 20 = 48 := by kernel_rfl
def srt (zs : List Int) : List Int := zs.mergeSort fun x y => decide (x ≤ y)
theorem sort_v (w : World) (base : Nat) (v : Value) (n : Nat) (zs : List Int) (h : w.ownsRow base 3 1 v n (zs.map (Value.int .i64))) (hv : v ≠ .slice none 0 0) (hn : n < 4611686018427387904) :
    Calls Tryz.prog 47 #[v] w fun e w' => e = .returned (.tuple #[]) ∧ w'.ownsRow base 3 1 v n ((srt zs).map (Value.int .i64)) ∧ w.grownBy w' v.ownBlock := by
  obtain ⟨g, cap, rfl, hbg, hlt, hnc, hcm, hl, hH⟩ := Lib.holds_of_ownsRow h hv
  subst hl
  have hc := Any.slices_Sort_int laysSort g 0 cap zs w hH hlt hn
  rw [renSort] at hc
  refine hc.mono ?_
  rintro e w' ⟨rfl, m, os, rfl⟩
  rcases h.2 with ⟨e0, _⟩ | ⟨g', cap', cur, e0, hb, hg, h1, h2, h3, h4⟩
  · cases e0
  · injection e0 with e1 _ e3
    injection e1 with e1
    injection e1 with e1
    subst e1
    subst e3
    exact ⟨rfl, ownsRow_sortedI (ss := zs) (ts := srt zs) (List.length_mergeSort zs) hb hg h1 h2 h3, grownBy_sortedI _⟩
theorem compact_v (w : World) (base : Nat) (v : Value) (n : Nat) (zs : List Int) (h : w.ownsRow base 3 1 v n (zs.map (Value.int .i64))) (hv : v ≠ .slice none 0 0) :
    Calls Tryz.prog 48 #[v] w fun e w' => ∃ g cap, v = .slice (some ⟨g, 0, none⟩) n cap ∧ e = .returned (.slice (some ⟨g, 0, none⟩) (Lib.compact zs).length cap) ∧ w'.ownsRow base 3 1 (.slice (some ⟨g, 0, none⟩) (Lib.compact zs).length cap) (Lib.compact zs).length ((Lib.compact zs).map (Value.int .i64)) ∧ w.grownBy w' v.ownBlock := by
  obtain ⟨g, cap, rfl, hbg, hlt, hnc, hcm, hl, hH⟩ := Lib.holds_of_ownsRow h hv
  subst hl
  unfold maxLen at hcm
  have hc := Any.slices_Compact_int laysCompact g 0 cap zs w hH (by omega) hnc
  rw [renCompact] at hc
  refine hc.mono ?_
  rintro e w' ⟨rfl, q, rfl⟩
  have hle := Lib.compact_length_le zs
  have ho := Lib.ownsRow_putRow (q := q) (k := (Lib.compact zs).length) (ys := Lib.compact zs ++ List.replicate (zs.length - (Lib.compact zs).length) 0) h (by simp; omega) hle
  rw [List.take_left] at ho
  refine ⟨g, cap, rfl, rfl, ho, ?_⟩
  refine ⟨rfl, rfl, rfl, by simp [putRow, mapBlock, Sort.ahead], fun k hk hne => ?_⟩
  have : g ≠ k := fun e => hne (by rw [e]; rfl)
  simp [putRow, mapBlock, Sort.ahead, Array.getElem?_modify, this]
theorem rise_eq : ∀ (A B : List Int), A.Pairwise (· < ·) → B.Pairwise (· < ·) → (∀ x, x ∈ A ↔ x ∈ B) → A = B
  | [], [], _, _, _ => rfl
  | [], b :: B, _, _, h => by have := (h b).2 List.mem_cons_self; cases this
  | a :: A, [], _, _, h => by have := (h a).1 List.mem_cons_self; cases this
  | a :: A, b :: B, hA, hB, h => by
    obtain ⟨a1, a2⟩ := List.pairwise_cons.1 hA
    obtain ⟨b1, b2⟩ := List.pairwise_cons.1 hB
    have e : a = b := by
      rcases List.mem_cons.1 ((h a).1 List.mem_cons_self) with e | e
      · exact e
      · rcases List.mem_cons.1 ((h b).2 List.mem_cons_self) with e2 | e2
        · exact e2.symm
        · have h1 := b1 a e
          have h2 := a1 b e2
          omega
    subst e
    congr 1
    refine rise_eq A B a2 b2 (fun x => ⟨fun hx => ?_, fun hx => ?_⟩)
    · rcases List.mem_cons.1 ((h x).1 (List.mem_cons_of_mem _ hx)) with e | e
      · have := a1 x hx; omega
      · exact e
    · rcases List.mem_cons.1 ((h x).2 (List.mem_cons_of_mem _ hx)) with e | e
      · have := b1 x hx; omega
      · exact e
theorem srt_pair (zs : List Int) : (srt zs).Pairwise (· ≤ ·) := by
  have := List.pairwise_mergeSort (le := fun x y : Int => decide (x ≤ y)) (by intro a b c; simp; omega) (by intro a b; simp; omega) zs
  exact this.imp (fun h => by simpa using h)
theorem srt_get (zs : List Int) (i j : Nat) (hij : i ≤ j) (hj : j < (srt zs).length) : (srt zs)[i]'(by omega) ≤ (srt zs)[j] := by
  rcases Nat.lt_or_ge i j with h | h
  · exact List.pairwise_iff_getElem.1 (srt_pair zs) i j (by omega) hj h
  · have : i = j := by omega
    subst this
    exact Int.le_refl _
theorem compact_mem (zs : List Int) (x : Int) : x ∈ Lib.compact (srt zs) ↔ x ∈ zs := by
  have hp : ∀ x, x ∈ srt zs ↔ x ∈ zs := fun x => (List.mergeSort_perm zs _).mem_iff
  rw [← hp]
  unfold Lib.compact Lib.compactUpTo
  constructor
  · intro h
    obtain ⟨i, hi, rfl⟩ := List.mem_map.1 h
    have hi' : i < (srt zs).length := List.mem_range.1 (List.mem_filter.1 hi).1
    simp [getElem!_pos, hi']
  · intro h
    obtain ⟨i, hi, e⟩ := List.getElem_of_mem h
    -- the least place that holds x
    have hex : ∃ j, j ≤ i ∧ ∃ hj : j < (srt zs).length, (srt zs)[j] = x ∧ ∀ k, k < j → ∀ hk : k < (srt zs).length, (srt zs)[k] ≠ x := by
      clear h
      induction i using Nat.strongRecOn with
      | _ i ih =>
        by_cases hk : ∃ k, ∃ hk : k < (srt zs).length, k < i ∧ (srt zs)[k] = x
        · obtain ⟨k, hk1, hk2, hk3⟩ := hk
          obtain ⟨j, h1, h2⟩ := ih k hk2 hk1 hk3
          exact ⟨j, by omega, h2⟩
        · exact ⟨i, Nat.le_refl _, hi, e, fun k hk1 hk2 he => hk ⟨k, hk2, hk1, he⟩⟩
    obtain ⟨j, _, hj, hjx, hmin⟩ := hex
    refine List.mem_map.2 ⟨j, List.mem_filter.2 ⟨List.mem_range.2 hj, ?_⟩, by simp [getElem!_pos, hj, hjx]⟩
    unfold Lib.keeps
    simp only [decide_eq_true_eq]
    by_cases h0 : j = 0
    · exact .inl h0
    · refine .inr ?_
      have h1 := hmin (j - 1) (by omega) (by omega)
      have hj1 : j - 1 < (srt zs).length := by omega
      rw [getElem!_pos _ j (by simpa using hj), getElem!_pos _ (j - 1) (by simpa using hj1)]
      simp only [List.getElem_toArray]
      rw [hjx]
      exact fun e => h1 e.symm
theorem compact_rise (zs : List Int) : (Lib.compact (srt zs)).Pairwise (· < ·) := by
  unfold Lib.compact Lib.compactUpTo
  rw [List.pairwise_map]
  have hr : ((List.range (srt zs).length).filter (Lib.keeps (srt zs).toArray)).Pairwise (· < ·) := List.pairwise_lt_range.filter _
  refine hr.imp_of_mem (fun {i j} hi hj hij => ?_)
  obtain ⟨hi1, _⟩ := List.mem_filter.1 hi
  obtain ⟨hj1, hj2⟩ := List.mem_filter.1 hj
  have hi' := List.mem_range.1 hi1
  have hj' := List.mem_range.1 hj1
  unfold Lib.keeps at hj2
  simp only [decide_eq_true_eq] at hj2
  have hjj : j - 1 < (srt zs).length := by omega
  rcases hj2 with h | h
  · omega
  · rw [getElem!_pos _ j (by simpa using hj'), getElem!_pos _ (j - 1) (by simpa using hjj)] at h
    rw [getElem!_pos _ i (by simpa using hi'), getElem!_pos _ j (by simpa using hj')]
    simp only [List.getElem_toArray] at h ⊢
    have h1 := srt_get zs i (j - 1) (by omega) hjj
    have h2 := srt_get zs (j - 1) j (by omega) hj'
    omega
end Go.Proofs.YthbbijaikcmaeaaGreatDoor
