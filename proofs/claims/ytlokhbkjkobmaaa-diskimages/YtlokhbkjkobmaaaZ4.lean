/-
  What slices.Backward's function hands on, one write under way after another, from the last one on.
-/
import Derived.Test.YtlokhbkjkobmaaaZ3
import Derived.RangeFuncNested
import Derived.RangeFuncBound
import Derived.RangeFuncCalls
import Derived.RangeFuncLeaves
import Derived.Shelf.Abstract
import Derived.Shelf.RegionOpen
import Derived.OwnWalkIn
import Derived.TacticsInMore
import Derived.LoopNIn
import Derived.LoopIn
namespace Go.Proofs.Ytlokhbkjkobmaaa
set_option linter.unusedVariables false
open Go.RowKit Go.Shelf Plain
attribute [local go_sem] Oper.semAt_some

/-- A write under way, with its number. -/
structure Wr where
  k : Nat
  p : Nat
  b : List Int
  hb : b.length = 192
def Wr.enc (x : Wr) : Array Value := #[.int .i64 (x.k : Int), .agg (wc (x.p, x.b)).toArray]
def Lens (L : List (Nat × List Int)) : Prop := ∀ x ∈ L, x.2.length = 192
def itm (L : List (Nat × List Int)) (hL : Lens L) (k : Nat) : Wr := if h : k < L.length then ⟨k, L[k].1, L[k].2, hL _ (List.getElem_mem h)⟩ else ⟨0, 0, z192, length_z192⟩
/-- What has come behind so many rounds. -/
def came (L : List (Nat × List Int)) (hL : Lens L) (j : Nat) : List Wr := (List.range j).map (fun t => itm L hL (L.length - 1 - t))
theorem came_succ (L : List (Nat × List Int)) (hL : Lens L) (j : Nat) : came L hL (j + 1) = came L hL j ++ [itm L hL (L.length - 1 - j)] := by simp [came, List.range_succ]
theorem came_length (L : List (Nat × List Int)) (hL : Lens L) (j : Nat) : (came L hL j).length = j := by simp [came]
/-- Writes in memory, where a slice says. -/
def Ways (n₀ : Nat) (W : World) (a : Option Addr) (L : List (Nat × List Int)) : Prop := 0 < L.length → ∃ b, a = some ⟨b, 0, none⟩ ∧ b < n₀ ∧ ∀ k (h : k < L.length), W.rangeAt b (k * 193) (wc L[k])
theorem Ways.below {n₀ : Nat} {A B : World} {a : Option Addr} {L : List (Nat × List Int)} (h : Ways n₀ A a L) (hb : Below n₀ A B) : Ways n₀ B a L := fun h0 => by
  obtain ⟨b, e, h1, h2⟩ := h h0
  exact ⟨b, e, h1, fun k hk j v hv => (hb.cell (p := ⟨b, k * 193 + j, none⟩) h1).trans (h2 k hk j v hv)⟩
theorem wpListIn_load2 {F : Fence} {n : Nat} {P : Program} {ops : Array Oper} {rest : List Oper} {op : Oper} {a : Act} {w : World} {Q : Exit → Act → World → Prop} (hgd : op.guard = none) (ty : TypeId) (x : Operand) (ho : op.op = .load ty x)
    (b o : Nat) (hx : a.eval x = .pointer (some ⟨b, o, none⟩)) (cs : List Value) (d : TypeDesc) (hc : w.rangeAt b o cs)
    (hu : P.underlying ty = some d) (hd : d.isRow = true) (hi : (P.info? ty).map (·.size) = some cs.length)
    (h : wpListIn F n P ops Q rest (a.put op.dst (.agg cs.toArray)) w) : wpListIn F n P ops Q (op :: rest) a w := by
  refine wpListIn_plain hgd fun K hK' => ?_
  unfold Oper.wpIn
  refine ⟨?_, ?_⟩
  · simp [Oper.about, ho]
  · rw [Oper.semAt_plain F _ _ (by rw [ho]; intro c hc'; cases hc')]
    unfold execOp
    simp only [ho, hx, Instr.loadAt, Instr.sureAddr, Sem.run_bind, Sem.run_pure, Result.andThen_ok, run_loadVar_mid w b o ty cs d hc hu hd hi]
    exact hK' _ _ h
set_option maxRecDepth 100000 in
set_option maxHeartbeats 2000000 in
theorem back1_in (F : Fence) (n : Nat) (h7 : F.fn 50) (hro : F.round = none) (hn : 1 ≤ n) (l Bs n₀ cap : Nat) (a : Option Addr) (L : List (Nat × List Int)) (hL : Lens L) (hreach : L.length < 1000000000) (J Jx : List Wr → World → Prop)
    (hY : ∀ pre x W, J pre W → pre.length < L.length → YieldAt F (n - 1) Try.prog l (Wr.enc x) W fun e W' =>
      (e = .returned (.bool true) ∧ J (pre ++ [x]) W' ∧ Below n₀ W W') ∨ (e = .returned (.bool false) ∧ Jx (pre ++ [x]) W'))
    (W : World) (hlt : Bs < n₀) (hBs : W.cell? ⟨Bs, 0, none⟩ = some (.slice a L.length cap)) (hc : Ways n₀ W a L) (h0 : J [] W) :
    CallsIn F n Try.prog 50 #[.func (.yield l) #[] #[], .pointer (some ⟨Bs, 0, none⟩)] W fun e W' => (∃ v, e = .returned v) ∧
      ((∃ ys, ys = came L hL L.length ∧ J ys W') ∨ (∃ pre, (∃ k, k ≤ L.length ∧ pre = came L hL k) ∧ Jx pre W')) := by
  refine callsIn_of_wp Try.func50 rfl h7 ?_ hro
  simp only [Try.ntmps50, List.size_toArray, List.length_cons, List.length_nil, Nat.reduceAdd, Nat.reduceSub, Array.replicate_succ, Array.replicate_zero, List.push_toArray, List.append_toArray, List.nil_append, List.cons_append]
  have hw1 : IntKind.i64.wrap ((L.length : Int) - 1) = (L.length : Int) - 1 := by rw [IntKind.wrap_i64]; omega
  gi_wp2
  gi_loopw [3] (fun i wr => ∃ k : Nat, k ≤ L.length ∧ i = .int .i64 ((L.length : Int) - 1 - k) ∧ J (came L hL k) wr ∧ Below n₀ W wr)
    (fun i _ => (intOf i + 1).toNat)
  case atStart => exact ⟨0, Nat.zero_le _, by simp, h0, Below.refl _ _⟩
  case round =>
    obtain ⟨k, hk, rfl, hJs, hnx⟩ := hrel
    have hBs' : wr.cell? ⟨Bs, 0, none⟩ = some (.slice a L.length cap) := (hnx.cell (p := ⟨Bs, 0, none⟩) hlt).trans hBs
    by_cases hlt2 : k < L.length
    · obtain ⟨b, rfl, hb, hr⟩ := hc.below hnx (by omega)
      obtain ⟨fn, tmps, assign, body, hy, hR⟩ := hY _ (itm L hL (L.length - 1 - k)) wr hJs (by rw [came_length]; exact hlt2)
      have hq : L.length - 1 - k < L.length := by omega
      have hr' := hr _ hq
      have he : itm L hL (L.length - 1 - k) = ⟨L.length - 1 - k, L[L.length - 1 - k].1, L[L.length - 1 - k].2, hL _ (List.getElem_mem hq)⟩ := by simp [itm, hq]
      rw [he] at hy
      simp only [Wr.enc] at hy
      have hlen : (wc L[L.length - 1 - k]).length = 193 := length_wc _ (hL _ (List.getElem_mem hq))
      rw [show ((L.length : Int) - 1 - k) = ((L.length - 1 - k : Nat) : Int) by omega]
      have hK : L.length - 1 - k = L.length - (k + 1) := by omega
      have HR : Box (∀ e W', (e = Ending.returned (.bool true) ∧ J (came L hL k ++ [itm L hL (L.length - 1 - k)]) W' ∧ Below n₀ wr W' ∨ e = Ending.returned (.bool false) ∧ Jx (came L hL k ++ [itm L hL (L.length - 1 - k)]) W') → (e = Ending.returned (.bool true) ∧ J (came L hL (k + 1)) W' ∧ Below n₀ W W') ∨ (e = Ending.returned (.bool false) ∧ Jx (came L hL (k + 1)) W')) := ⟨fun e W' h => by
        rw [came_succ]
        exact h.imp (fun h => ⟨h.1, h.2.1, hnx.trans h.2.2⟩) id⟩
      have hqe : Box (L.length - 1 - k + k + 1 = L.length) := ⟨by omega⟩
      have hr2 : Box (wr.rangeAt b ((L.length - 1 - k) * 193) (wc L[L.length - 1 - k])) := ⟨hr'⟩
      have hy2 : (Instr.yield l #[Value.int .i64 ((L.length - 1 - k : Nat) : Int), .agg (wc L[L.length - 1 - k]).toArray]).run Try.prog wr = .ok (.round l fn tmps assign body) wr := hy
      have hi : (Try.prog.info? 84).map (·.size) = some (wc L[L.length - 1 - k]).length := by rw [hlen]; exact info84
      have hR2 := hR.mono HR.out
      have hw2 : IntKind.i64.wrap (((L.length - 1 - k : Nat) : Int) - 1) = ((L.length - 1 - k : Nat) : Int) - 1 := by rw [IntKind.wrap_i64]; omega
      clear hr hr' hc hY hy hR HR he hlen hnx hJs hBs h0 hlt2 hK
      generalize L[L.length - 1 - k] = x at hy2 hr2 hi
      generalize L.length - 1 - k = q at *
      gi_wp2_with (refine wpListIn_load2 rfl 84 _ rfl b (q * 193) rfl (wc x) _ hr2.out Try.underlying84 rfl hi ?_)
      refine hR2.mono ?_
      rintro e W3 (⟨rfl, hJ3, hk3⟩ | ⟨rfl, hJx3⟩)
      · gi_wp2
        go_roundw
        case rel => exact ⟨k + 1, by have := hqe.out; omega, by have := hqe.out; congr 1; omega, hJ3, hk3⟩
        case measure => simp [intOf]
      · gi_wp2
        refine bodyPost_ret (results_none rfl _ _ _) rfl ?_
        exact ⟨⟨_, rfl⟩, .inr ⟨_, ⟨k + 1, by have := hqe.out; omega, rfl⟩, hJx3⟩⟩
    · obtain rfl : k = L.length := by omega
      have hneg : decide (0 ≤ (L.length : Int) - 1 - L.length) = false := by simp; omega
      gi_wp2
      go_end0
      exact ⟨⟨_, rfl⟩, .inl ⟨_, rfl, hJs⟩⟩
end Go.Proofs.Ytlokhbkjkobmaaa
