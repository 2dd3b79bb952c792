/-
  What the bytes are that the statements write: as long as a place, or one less.
-/
import Derived.Test.YtlokhbkjkobmaaaZE
namespace Go.Proofs.Ytlokhbkjkobmaaa
set_option linter.unusedVariables false
open Go.RowKit Plain

/-- Bytes cut or filled up to n. -/
def fullB (n : Nat) (B : List Int) : List Int := (B ++ List.replicate n 0).take n
theorem length_fullB (n : Nat) (B : List Int) : (fullB n B).length = n := by simp [fullB]
theorem byt_fullB (n : Nat) (B : List Int) (h : Byt B) : Byt (fullB n B) := byt_take _ _ (byt_app _ _ h (byt_zeros n))
/-- Bytes of which so many are laid already. -/
def laidB (n : Nat) (B : List Int) (k : Nat) : List Int := (B.take k ++ List.replicate n 0).take n
def zrs (n : Nat) : List Int := List.replicate n 0
theorem laidB_zero (n : Nat) (B : List Int) : laidB n B 0 = zrs n := by simp [laidB, zrs]
theorem length_laidB (n : Nat) (B : List Int) (k : Nat) : (laidB n B k).length = n := by simp [laidB]
theorem laidB_succ (n : Nat) (B : List Int) (k : Nat) (hk : k < B.length) (hn : k < n) : (laidB n B k).set k (B.getD k 0) = laidB n B (k + 1) := by
  refine eq_getD _ _ n (by simp [laidB]) (length_laidB _ _ _) (fun i hi => ?_)
  have e1 : ∀ m, (laidB n B m).getD i 0 = if i < min m B.length then B.getD i 0 else 0 := fun m => by
    simp only [laidB, List.getD, List.getElem?_take, if_pos hi]
    by_cases h : i < min m B.length
    · rw [List.getElem?_append_left (by simpa using h), List.getElem?_take, if_pos (by omega), if_pos h]
    · rw [List.getElem?_append_right (by simp; omega), if_neg h]
      simp only [List.getElem?_replicate]
      split <;> rfl
  have e2 : ((laidB n B k).set k (B.getD k 0)).getD i 0 = if k = i then B.getD k 0 else (laidB n B k).getD i 0 := by
    simp only [List.getD, List.getElem?_set, length_laidB, if_pos hn]
    split
    · rfl
    · rfl
  rw [e2, e1, e1]
  by_cases h : k = i
  · subst h
    rw [if_pos rfl, if_pos (by omega)]
  · rw [if_neg h]
    by_cases h2 : i < k
    · rw [if_pos (by omega), if_pos (by omega)]
    · rw [if_neg (by omega), if_neg (by omega)]
theorem laidB_full (n : Nat) (B : List Int) (k : Nat) (h : B.length ≤ k ∨ n ≤ k) : laidB n B k = fullB n B := by
  rcases h with h | h
  · rw [laidB, List.take_of_length_le h]
    rfl
  · refine eq_getD _ _ n (length_laidB _ _ _) (length_fullB _ _) (fun i hi => ?_)
    simp only [laidB, fullB, List.getD, List.getElem?_take, if_pos hi]
    by_cases h2 : i < B.length
    · rw [List.getElem?_append_left (by simp; omega), List.getElem?_append_left h2, List.getElem?_take, if_pos (by omega)]
    · rw [List.getElem?_append_right (by simp; omega), List.getElem?_append_right (by omega)]
      simp only [List.getElem?_replicate, List.length_take]
      have e : i - min k B.length = i - B.length := by omega
      rw [e]
theorem exec_makeB {o : Oper} {ρ : Operand → Value} {w : World} (n : Nat) (hn : n ≤ 1000000) (l c : Operand) (ho : o.op = .makeSlice 36 l c) (hl : ρ l = .int .i64 (n : Int)) (hc : ρ c = .int .i64 (n : Int)) :
    (execOp ρ o).run Try.prog w = .ok (.value (.slice (some ⟨w.heap.size, 0, none⟩) n n)) (w.alloc (.cells (u8s (zrs n)) 5)) := by
  have := exec_make (P := Try.prog) (o := o) (ρ := ρ) (w := w) 36 5 l c ho (.int .u8 0) 1 1 Try.underlying36 info5 n hl hc (by omega) (by omega)
  have e : madeCells (Value.int .u8 0).cells (n * 1) = u8s (zrs n) := by rw [Nat.mul_one]; exact made_bytes n
  rw [e] at this
  exact this
/-- How long the bytes are. -/
def fln (s : Bool) : Nat := if s then 191 else 192
/-- The bytes so far, behind the box of what is done. -/
structure Fw (w wr : World) (v : Value) (X : List Int) : Prop where
  arg : wr.cell? ⟨w.heap.size, 2, none⟩ = some v
  row : wr.heap[w.heap.size + 1]? = some (.cells (u8s X) 5 (0, 0))
  bel : Below w.heap.size w wr
theorem fw_new (w : World) (cs : Array Value) (t : TypeId) (n : Nat) {v : Value} (h : cs[2]? = some v) : Fw w ((w.alloc (.cells cs t)).alloc (.cells (u8s (zrs n)) 5)) v (zrs n) :=
  ⟨cell_al _ (by rw [cell_of_row _ _ _ _ _ _ (al_at rfl)]; exact h), al_at (by simp), ((Below.refl _ w).alloc (Nat.le_refl _) _).alloc (by simp) _⟩
theorem Fw.at_ {w wr : World} {v : Value} {X : List Int} (h : Fw w wr v X) (q : Nat) (hq : q < X.length) : wr.cell? ⟨w.heap.size + 1, q, none⟩ = some (.int .u8 (X.getD q 0)) ∧ wr.frozen? ⟨w.heap.size + 1, q, none⟩ = false :=
  ⟨row_cell wr _ q X 5 _ h.row hq, frozen_of_row wr _ q _ 5 h.row⟩
theorem Fw.set {w wr : World} {v : Value} {X : List Int} (h : Fw w wr v X) (q : Nat) (z : Int) : Fw w (wr.setCell ⟨w.heap.size + 1, q, none⟩ (.int .u8 z)) v (X.set q z) :=
  ⟨by rw [World.cell?_setCell_other _ _ _ _ (fun e => by have := congrArg Addr.block e; simp at this)]; exact h.arg, by rw [heap_setCell_same wr _ q _ 5 _ h.row, u8s_set], below_set h.bel (by omega) _⟩
set_option maxRecDepth 20000 in
set_option maxHeartbeats 4000000 in
theorem full_any (w : World) (k i : Int) (a : Option Addr) (len cap : Nat) (kv : Value) (hk1 : kv.cells = #[kv]) (s : Bool) (B : List Int) (hB : Bytes w a len B) (hlen : len ≤ maxLen) :
    Calls Try.prog 22 #[.agg #[.int .i64 k, .int .i64 i, .slice a len cap, kv, .bool s]] w fun e w' => ∃ g, e = .returned (.slice (some ⟨g, 0, none⟩) (fln s) (fln s)) ∧ w.heap.size ≤ g ∧ w'.heap[g]? = some (.cells (u8s (fullB (fln s) B)) 5 (0, 0)) ∧ Below w.heap.size w w' := by
  cases s
  case false =>
    have hlen2 : len < 9223372036854775808 := by unfold maxLen at hlen; omega
    have HB : Box (Bytes w a len B) := ⟨hB⟩
    have L0 : Box (Fw w ((w.alloc (.cells #[.int .i64 k, .int .i64 i, .slice a len cap, kv, .bool false] 39)).alloc (.cells (u8s (zrs 192)) 5)) (.slice a len cap) (laidB 192 B 0)) := ⟨by rw [laidB_zero]; exact fw_new w _ _ _ rfl⟩
    obtain ⟨S, HS⟩ : ∃ S, Box (w.heap.size = S) := ⟨_, ⟨rfl⟩⟩
    clear hB hlen hk1
    go_enter Try.func22, Try.ntmps22
    go_wp2_with (refine wpList_run rfl _ _ (exec_makeB 192 (by omega) _ _ rfl rfl rfl) ?_)
    generalize (w.alloc (.cells #[.int .i64 k, .int .i64 i, .slice a len cap, kv, .bool false] 39)).alloc (.cells (u8s (zrs 192)) 5) = x0 at L0 ⊢
    rw [HS.out]
    go_loopw [5] (fun j wr => ∃ q : Nat, q ≤ 192 ∧ j = .int .i64 q ∧ Box (Fw w wr (.slice a len cap) (laidB 192 B q))) (fun j _ => 192 - (intOf j).toNat)
    case atStart => exact ⟨0, by omega, rfl, L0⟩
    case round =>
      clear L0
      obtain ⟨q, hq, rfl, HL⟩ := hrel
      have cA : wr.cell? ⟨S, 2, none⟩ = some (.slice a len cap) := by rw [← HS.out]; exact HL.out.arg
      by_cases h1 : q < len
      · by_cases h2 : q < 192
        · obtain ⟨bb, off, rfl, hbb, hc⟩ := HB.out.2.2 (by omega)
          have cB : wr.cell? ⟨bb, off + q, none⟩ = some (.int .u8 (B.getD q 0)) := (HL.out.bel.cell (p := ⟨bb, off + q, none⟩) hbb).trans (hc q h1)
          obtain ⟨cR, fR⟩ := HL.out.at_ q (by rw [length_laidB]; exact h2)
          rw [HS.out] at cR fR
          have HL2 : Box (Fw w (wr.setCell ⟨S + 1, q, none⟩ (.int .u8 (B.getD q 0))) (.slice (some ⟨bb, off, none⟩) len cap) (laidB 192 B (q + 1))) := ⟨by rw [← laidB_succ 192 B q (by rw [HB.out.1]; exact h1) h2, ← HS.out]; exact HL.out.set q _⟩
          generalize B.getD q 0 = z at cB HL2
          clear HL hc
          go_wp2
          go_roundw
          case rel => exact ⟨q + 1, by omega, by simp, HL2⟩
          case measure => simp [intOf]; omega
        · have e1 : laidB 192 B q = fullB 192 B := laidB_full _ _ _ (.inr (by omega))
          obtain rfl : q = 192 := by omega
          rw [e1] at HL
          have hs1 : ((192 : Nat) : Int) = 192 := rfl
          go_wp2
          go_ret
          exact ⟨S + 1, rfl, by rw [HS.out]; omega, by rw [← HS.out]; exact HL.out.row, by have := HL.out.bel; rw [HS.out] at this ⊢; exact this⟩
      · have e1 : laidB 192 B q = fullB 192 B := laidB_full _ _ _ (.inl (by rw [HB.out.1]; omega))
        rw [e1] at HL
        have h1' : decide ((q : Int) < (len : Int)) = false := by simp; omega
        go_wp2
        go_ret
        exact ⟨S + 1, rfl, by rw [HS.out]; omega, by rw [← HS.out]; exact HL.out.row, by have := HL.out.bel; rw [HS.out] at this ⊢; exact this⟩
  case true =>
    have hlen2 : len < 9223372036854775808 := by unfold maxLen at hlen; omega
    have HB : Box (Bytes w a len B) := ⟨hB⟩
    have L0 : Box (Fw w ((w.alloc (.cells #[.int .i64 k, .int .i64 i, .slice a len cap, kv, .bool true] 39)).alloc (.cells (u8s (zrs 191)) 5)) (.slice a len cap) (laidB 191 B 0)) := ⟨by rw [laidB_zero]; exact fw_new w _ _ _ rfl⟩
    obtain ⟨S, HS⟩ : ∃ S, Box (w.heap.size = S) := ⟨_, ⟨rfl⟩⟩
    clear hB hlen hk1
    go_enter Try.func22, Try.ntmps22
    go_wp2_with (refine wpList_run rfl _ _ (exec_makeB 191 (by omega) _ _ rfl rfl rfl) ?_)
    generalize (w.alloc (.cells #[.int .i64 k, .int .i64 i, .slice a len cap, kv, .bool true] 39)).alloc (.cells (u8s (zrs 191)) 5) = x0 at L0 ⊢
    rw [HS.out]
    go_loopw [5] (fun j wr => ∃ q : Nat, q ≤ 191 ∧ j = .int .i64 q ∧ Box (Fw w wr (.slice a len cap) (laidB 191 B q))) (fun j _ => 191 - (intOf j).toNat)
    case atStart => exact ⟨0, by omega, rfl, L0⟩
    case round =>
      clear L0
      obtain ⟨q, hq, rfl, HL⟩ := hrel
      have cA : wr.cell? ⟨S, 2, none⟩ = some (.slice a len cap) := by rw [← HS.out]; exact HL.out.arg
      by_cases h1 : q < len
      · by_cases h2 : q < 191
        · obtain ⟨bb, off, rfl, hbb, hc⟩ := HB.out.2.2 (by omega)
          have cB : wr.cell? ⟨bb, off + q, none⟩ = some (.int .u8 (B.getD q 0)) := (HL.out.bel.cell (p := ⟨bb, off + q, none⟩) hbb).trans (hc q h1)
          obtain ⟨cR, fR⟩ := HL.out.at_ q (by rw [length_laidB]; exact h2)
          rw [HS.out] at cR fR
          have HL2 : Box (Fw w (wr.setCell ⟨S + 1, q, none⟩ (.int .u8 (B.getD q 0))) (.slice (some ⟨bb, off, none⟩) len cap) (laidB 191 B (q + 1))) := ⟨by rw [← laidB_succ 191 B q (by rw [HB.out.1]; exact h1) h2, ← HS.out]; exact HL.out.set q _⟩
          generalize B.getD q 0 = z at cB HL2
          clear HL hc
          go_wp2
          go_roundw
          case rel => exact ⟨q + 1, by omega, by simp, HL2⟩
          case measure => simp [intOf]; omega
        · have e1 : laidB 191 B q = fullB 191 B := laidB_full _ _ _ (.inr (by omega))
          obtain rfl : q = 191 := by omega
          rw [e1] at HL
          have hs1 : ((191 : Nat) : Int) = 191 := rfl
          go_wp2
          go_ret
          exact ⟨S + 1, rfl, by rw [HS.out]; omega, by rw [← HS.out]; exact HL.out.row, by have := HL.out.bel; rw [HS.out] at this ⊢; exact this⟩
      · have e1 : laidB 191 B q = fullB 191 B := laidB_full _ _ _ (.inl (by rw [HB.out.1]; omega))
        rw [e1] at HL
        have h1' : decide ((q : Int) < (len : Int)) = false := by simp; omega
        go_wp2
        go_ret
        exact ⟨S + 1, rfl, by rw [HS.out]; omega, by rw [← HS.out]; exact HL.out.row, by have := HL.out.bel; rw [HS.out] at this ⊢; exact this⟩
end Go.Proofs.Ytlokhbkjkobmaaa
