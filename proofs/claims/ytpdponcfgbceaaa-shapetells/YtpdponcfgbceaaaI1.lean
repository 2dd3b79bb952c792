/-
  Rows of ints in memory: read, cut, appended to; nothing of the program is said here but the types' numbers.
-/
import Derived.Test.YtpdponcfgbceaaaA1
import Derived.Test.YtpdponcfgbceaaaProg
import Derived.WalkSpells
import Derived.WalkLawsBesides
import Derived.Laws.AppendOwn
import Derived.OwnWalk
import Derived.Maps.AppendAt
import Derived.Deep.Cut
namespace Go.Proofs.Ytpdponcfgbceaaa
set_option linter.unusedVariables false
open Go.RowKit Plain

/-- The ints L stand, one behind the other, where a slice's address says. -/
def Ints (w : World) (a : Option Addr) (len : Nat) (L : List Int) : Prop :=
  L.length = len ∧ (0 < len → ∃ b off, a = some ⟨b, off, none⟩ ∧ b < w.heap.size ∧ ∀ i, i < len → w.cell? ⟨b, off + i, none⟩ = some (.int .i64 (L.getD i 0)))
theorem Ints.below {w w' : World} {a : Option Addr} {len : Nat} {L : List Int} (h : Ints w a len L) (hb : Below w.heap.size w w') : Ints w' a len L := by
  refine ⟨h.1, fun hp => ?_⟩
  obtain ⟨b, off, e, hlt, hc⟩ := h.2 hp
  exact ⟨b, off, e, Nat.lt_of_lt_of_le hlt hb.size, fun i hi => (hb.cell hlt).trans (hc i hi)⟩
theorem ints_none (w : World) : Ints w none 0 [] := ⟨rfl, fun h => by omega⟩
theorem Ints.cell {w : World} {b off len : Nat} {L : List Int} (h : Ints w (some ⟨b, off, none⟩) len L) (i : Nat) (hi : i < len) : w.cell? ⟨b, off + i, none⟩ = some (.int .i64 (L.getD i 0)) := by
  obtain ⟨b', off', he, _, hc⟩ := h.2 (by omega)
  simp only [Option.some.injEq, Addr.mk.injEq, and_true] at he
  obtain ⟨rfl, rfl⟩ := he
  exact hc i hi
theorem ints_of_row {w : World} {g : Nat} {X : List Int} {t : TypeId} {fr : Nat × Nat} (hg : w.heap[g]? = some (.cells (i64s X) t fr)) : Ints w (some ⟨g, 0, none⟩) X.length X :=
  ⟨rfl, fun _ => ⟨g, 0, rfl, (Array.getElem?_eq_some_iff.1 hg).1, fun i hi => by rw [Nat.zero_add]; exact i64_cell w g i X t fr hg hi⟩⟩
theorem iown_later {w w' : World} {base n : Nat} {v : Value} {xs : List Value} (h : w.ownsRow base 3 1 v n xs) (hb : Below w.heap.size w w') : w'.ownsRow base 3 1 v n xs := by
  refine ⟨h.1, ?_⟩
  rcases h.2 with h3 | ⟨g, cap', cur, h3, hb', hh, r⟩
  · exact .inl h3
  · exact .inr ⟨g, cap', cur, h3, hb', by rw [hb.block g (Array.getElem?_eq_some_iff.1 hh).1]; exact hh, r⟩
theorem iown_low {w : World} {base base' n : Nat} {v : Value} {xs : List Value} (h : w.ownsRow base 3 1 v n xs) (hb : base' ≤ base) : w.ownsRow base' 3 1 v n xs := by
  refine ⟨h.1, ?_⟩
  rcases h.2 with h3 | ⟨g, cap', cur, h3, hb', r⟩
  · exact .inl h3
  · exact .inr ⟨g, cap', cur, h3, Nat.le_trans hb hb', r⟩
theorem iown_form {w : World} {base n : Nat} {v : Value} {xs : List Value} (h : w.ownsRow base 3 1 v n xs) : ∃ a cap, v = .slice a n cap := by
  rcases h.2 with ⟨rfl, rfl⟩ | ⟨g, cap', cur, rfl, _⟩
  · exact ⟨_, _, rfl⟩
  · exact ⟨_, _, rfl⟩
theorem iown_cap {w : World} {base n cap : Nat} {a : Option Addr} {xs : List Value} (h : w.ownsRow base 3 1 (.slice a n cap) n xs) : n ≤ cap ∧ cap ≤ maxLen := by
  rcases h.2 with ⟨h1, h2⟩ | ⟨g, cap', cur, h1, _, _, h2, h3, _⟩
  · simp only [Value.slice.injEq] at h1
    obtain ⟨_, rfl, rfl⟩ := h1
    exact ⟨Nat.le_refl _, Nat.zero_le _⟩
  · simp only [Value.slice.injEq, true_and] at h1
    obtain ⟨_, rfl⟩ := h1
    exact ⟨h2, h3⟩
theorem iown_ints {w : World} {base n cap : Nat} {a : Option Addr} {L : List Int} (h : w.ownsRow base 3 1 (.slice a n cap) n (L.map (Value.int .i64))) : Ints w a n L := by
  have hn : L.length = n := by simpa using h.1
  refine ⟨hn, fun hp => ?_⟩
  rcases h.2 with ⟨_, h3⟩ | ⟨g, cap', cur, h3, _, hh, _, _, _, _⟩
  · omega
  · simp only [Value.slice.injEq, true_and] at h3
    obtain ⟨rfl, rfl⟩ := h3
    refine ⟨g, 0, rfl, (Array.getElem?_eq_some_iff.1 hh).1, fun i hi => ?_⟩
    rw [Nat.zero_add, h.cellAt i (by omega)]
    have hi' : i < L.length := by rw [hn]; exact hi
    simp [hi']
theorem Ints.news {w : World} {ad : Addr} {len : Nat} {L : List Int} (h : Ints w (some ad) len L) : ∀ j u, (L.map (Value.int .i64))[j]? = some u → w.cell? (ad.add j) = some u := by
  intro j u hj
  have hlt : j < L.length := by simpa using (List.getElem?_eq_some_iff.1 hj).1
  obtain ⟨b, off, he, _, hc⟩ := h.2 (by rw [← h.1]; omega)
  simp only [Option.some.injEq] at he
  subst he
  rw [Addr.add_lit, hc j (by rw [← h.1]; exact hlt), ← hj]
  simp [hlt]
theorem infoI : (Try.prog.info? 3).map (fun i => (i.zero, i.size, i.bytes)) = some (some (.int .i64 0), 1, 8) := by kernel_rfl
/-- Ints appended to a row of the call's own. -/
theorem wpList_iapp {ops : Array Oper} {rest : List Oper} {o : Oper} {act : Act} {w : World} {Q : Exit → Act → World → Prop} (hgd : o.guard = none) (s x : Operand)
    (ho : o.op = .call { callee := .builtin .append, args := #[s, x], argTypes := #[23, 23] }) (base n m c : Nat) (v : Value) (A L : List Int) (ad : Addr) (w0 : World)
    (hs : act.eval s = v) (hx : act.eval x = .slice (some ad) m c) (hown : w.ownsRow base 3 1 v n (A.map (Value.int .i64))) (hb : Ints w (some ad) m L) (hl : n + m ≤ 17592186044416) (hbel : Below base w0 w) (hbase : base ≤ w.heap.size)
    (h : ∀ v' w', Box (w'.ownsRow base 3 1 v' (n + m) ((A ++ L).map (Value.int .i64)) ∧ Below base w0 w' ∧ base ≤ w'.heap.size) → wpList Try.prog ops Q rest (act.put o.dst v') w') : wpList Try.prog ops Q (o :: rest) act w := by
  obtain ⟨i0, hi, hz0, hz1, hz2⟩ := info_parts infoI
  refine wpList_append_own w hgd s x 23 ho base 3 i0 (.int .i64 0) 1 8 Try.underlying23 hi hz0 hz1 hz2 rfl (by decide) v n _ hs hown ad m c (L.map (Value.int .i64)) hx (by simp [hb.1]) hb.news (ints_oneCell _ _) (by unfold maxLen; omega) (by omega) hbase ?_
  intro v' w' h1 h2 _
  have := h2.size
  exact h v' w' ⟨by rw [List.map_append]; exact h1, hbel.grown h2 hbase (fun k hk => (hown.lt k hk).1), by omega⟩
/-- A new row of ints of one's own. -/
theorem iown_new {w : World} {X : List Int} {n : Nat} (hX : X.length = n) (hn : n ≤ maxLen) (base : Nat) (hb : base ≤ w.heap.size) : (w.alloc (.cells (i64s X) 3)).ownsRow base 3 1 (.slice (some ⟨w.heap.size, 0, none⟩) n n) n (X.map (Value.int .i64)) :=
  ⟨by simp [hX], .inr ⟨w.heap.size, n, _, rfl, hb, al_at rfl, Nat.le_refl _, hn, by simp [i64s, hX], by simp [i64s]; exact List.take_of_length_le (by simp [hX])⟩⟩
theorem islice_hi (a : Option Addr) (len cap n : Nat) (hn : n ≤ len) (hc : len ≤ cap) : ∃ a', (∀ x, (Instr.sliceAt 23 (.slice a len cap) none (some (.int .i64 (n : Int))) none).run Try.prog x = .ok (.slice a' n cap) x) ∧ ∀ x B, Ints x a len B → Ints x a' n (B.take n) := by
  refine ⟨if cap = 0 then a else a.map (·.add (0 * 1)), fun x => ?_, fun x B hB => ?_⟩
  · have hu : Try.prog.underlying 23 = some (.slice (Try.prog.elem 23)) := by kernel_rfl
    rw [run_sliceAt_slice (P := Try.prog) x 23 _ _ _ _ hu, run_slice_h (P := Try.prog) x 23 a len cap hu .i64 (n : Int) (by omega) (by omega)]
    have hs : (sizeOf (Try.prog.elem 23)).run Try.prog x = .ok 1 x := by kernel_rfl
    rw [hs, Result.andThen_ok, sliced]
    simp
  · refine ⟨by rw [List.length_take, hB.1]; omega, fun hp => ?_⟩
    obtain ⟨b, off, rfl, hlt, hcl⟩ := hB.2 (by omega)
    rw [if_neg (by omega)]
    refine ⟨b, off, by simp [Addr.add_mid], hlt, fun i hi => ?_⟩
    rw [hcl i (by omega)]
    simp [List.getD, hi]
end Go.Proofs.Ytpdponcfgbceaaa
