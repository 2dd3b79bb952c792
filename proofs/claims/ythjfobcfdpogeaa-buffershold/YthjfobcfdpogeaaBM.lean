/-
  The walk of BuffersLast: of blocks put in one behind the other the last ones are kept; one that was used is kept longer.
-/
import Derived.Test.YthjfobcfdpogeaaBL
namespace Go.Proofs.Ythjfobcfdpogeaa
set_option linter.unusedVariables false
open Go.RowKit Plain

/-- A byte, and noughts behind it. -/
def o160 (v : Int) : List Int := v :: List.replicate 159 0
theorem length_o160 (v : Int) : (o160 v).length = 160 := by simp [o160]
theorem full_one (w : World) (S : Nat) (v : Int) (hv : 0 ≤ v ∧ v ≤ 255) (hS : w.heap[S]? = some (.cells #[.int .u8 v] 5 (0, 0))) : Calls Try.prog 10 #[.slice (some ⟨S, 0, none⟩) 1 1, .bool false] w fun e w' => (∃ S', e = .returned (.slice (some ⟨S', 0, none⟩) 160 160) ∧ w.heap.size ≤ S' ∧ B8 w' S' (o160 v)) ∧ Below w.heap.size w w' := by
  have hb : Byt [v] := byt_cons v [] hv byt_nil
  refine (full_any w (some ⟨S, 0, none⟩) 1 1 [v] (bytes_of_row (X := [v]) hb hS) (by omega) false).mono ?_
  rintro e w' ⟨⟨S', rfl, h1, h2⟩, hb2⟩
  have e1 : fl [v] (shn false) = o160 v := by simp [fl, shn, o160]
  rw [e1] at h2
  exact ⟨⟨S', rfl, h1, h2, byt_cons v _ hv (byt_zeros _)⟩, hb2⟩
/-- The last ones of k blocks, m at most, each with its number as its first byte, none held. -/
def Ls (k m : Nat) (L : List Kp) : Prop := L.length = min k m ∧ ∀ q (h : q < L.length), L[q].b = ((k - 1 - q : Nat) : Int) ∧ L[q].h = 0 ∧ L[q].bs = o160 ((k - 1 - q : Nat) : Int)
theorem ls_nil (m : Nat) : Ls 0 m [] := ⟨by simp, fun q h => by simp at h⟩
theorem Ls.no {k m : Nat} {L : List Kp} (h : Ls k m L) (b : Int) (hb : (k : Int) ≤ b) : No L b := fun x hx => by
  obtain ⟨q, hq, rfl⟩ := List.getElem_of_mem hx
  have := h.1
  rw [(h.2 q hq).1]
  omega
/-- A row of which none is held, of m at most: room is made by the last one. -/
def cutm (m : Nat) (L : List Kp) : List Kp := if L.length < m then L else L.eraseIdx (L.length - 1)
theorem rm_cut {m : Nat} {L : List Kp} (hm : 0 < m) (hl : L.length ≤ m) (hh : ∀ x ∈ L, x.h = 0) : Rm m L (cutm m L) true := by
  unfold cutm
  split
  · exact .fit L (by omega)
  · have e : L.length = m := by omega
    refine .step L _ true (L.length - 1) (by omega) ⟨by omega, hh _ (List.getElem_mem _), fun j hj hlt => by omega⟩ (.fit _ ?_)
    rw [List.length_eraseIdx, if_pos (by omega)]
    omega
theorem length_cutm {m : Nat} {L : List Kp} (hm : 0 < m) (hl : L.length ≤ m) : (cutm m L).length < m ∧ (cutm m L).length = min L.length (m - 1) := by
  unfold cutm
  split
  · omega
  · rw [List.length_eraseIdx, if_pos (by omega)]
    omega
theorem cutm_get {m : Nat} {L : List Kp} (q : Nat) (h : q < (cutm m L).length) (h2 : q < L.length) : (cutm m L)[q] = L[q] := by
  by_cases hc : L.length < m
  · simp only [cutm, if_pos hc]
  · simp only [cutm, if_neg hc] at h ⊢
    rw [List.length_eraseIdx, if_pos (by omega)] at h
    exact List.getElem_eraseIdx_of_lt _ (by omega)
theorem cutm_mem {m : Nat} {L : List Kp} {x : Kp} (h : x ∈ cutm m L) : x ∈ L := by
  unfold cutm at h
  split at h
  · exact h
  · exact List.mem_of_mem_eraseIdx h
theorem Ls.held {k m : Nat} {L : List Kp} (h : Ls k m L) : ∀ x ∈ L, x.h = 0 := fun x hx => by
  obtain ⟨q, hq, rfl⟩ := List.getElem_of_mem hx
  exact (h.2 q hq).2.1
theorem Ls.step {k m : Nat} {L : List Kp} (h : Ls k m L) (hm : 0 < m) (y : Kp) (h1 : y.b = (k : Int)) (h2 : y.h = 0) (h3 : y.bs = o160 (k : Int)) : Ls (k + 1) m (y :: cutm m L) := by
  have hl := h.1
  have hc := length_cutm (m := m) (L := L) hm (by omega)
  refine ⟨by simp only [List.length_cons]; omega, fun q hq => ?_⟩
  cases q with
  | zero => exact ⟨by simpa using h1, by simpa using h2, by simpa using h3⟩
  | succ q =>
    have hq' : q < (cutm m L).length := by simpa using hq
    have hq2 : q < L.length := by omega
    simp only [List.getElem_cons_succ]
    rw [cutm_get q hq' hq2]
    have := h.2 q hq2
    rw [show k + 1 - 1 - (q + 1) = k - 1 - q by omega]
    exact this
/-- Behind j more blocks the one that was used stands at place j. -/
structure Us (m : Nat) (a : Int) (j : Nat) (L : List Kp) : Prop where
  len : L.length ≤ m
  held : ∀ x ∈ L, x.h = 0
  at_ : ∃ h : j < L.length, L[j].b = a ∧ L[j].bs = o160 a
  ahead : ∀ q (h : q < L.length), q < j → L[q].b ≠ a
  far : ∀ x ∈ L, x.b < 100 + j
theorem Us.no {m : Nat} {a : Int} {j : Nat} {L : List Kp} (h : Us m a j L) : No L (100 + (j : Int)) := fun x hx e => by
  have := h.far x hx
  omega
theorem Us.step {m : Nat} {a : Int} {j : Nat} {L : List Kp} (h : Us m a j L) (hj : j + 1 < m) (ha : a < 100) (y : Kp) (h1 : y.b = 100 + (j : Int)) (h2 : y.h = 0) : Us m a (j + 1) (y :: cutm m L) := by
  obtain ⟨hl, k1, k2⟩ := h.at_
  have hc := length_cutm (m := m) (L := L) (by omega) h.len
  have hjc : j < (cutm m L).length := by omega
  refine ⟨by simp only [List.length_cons]; omega, fun x hx => ?_, ⟨by simpa using hjc, by simpa [cutm_get j hjc hl] using k1, by simpa [cutm_get j hjc hl] using k2⟩, fun q hq hlt => ?_, fun x hx => ?_⟩
  · rcases List.mem_cons.1 hx with rfl | hx
    · exact h2
    · exact h.held x (cutm_mem hx)
  · cases q with
    | zero => simp only [List.getElem_cons_zero]; omega
    | succ q =>
      have hq' : q < (cutm m L).length := by simpa using hq
      simp only [List.getElem_cons_succ]
      rw [cutm_get q hq' (by omega)]
      exact h.ahead q _ (by omega)
  · rcases List.mem_cons.1 hx with rfl | hx
    · omega
    · have := h.far x (cutm_mem hx)
      omega
theorem Us.fs {m : Nat} {a : Int} {j : Nat} {L : List Kp} (h : Us m a j L) : Fs L a j := by
  obtain ⟨hl, k1, _⟩ := h.at_
  exact ⟨hl, k1, fun q hq hlt => h.ahead q hq hlt⟩
theorem Ls.used {k m : Nat} {L : List Kp} (h : Ls k m L) (hk : k ≤ 16) (hm : 0 < m) (i : Nat) (hi : i < L.length) : Us m ((k - 1 - i : Nat) : Int) 0 (fro L i hi) := by
  have hl := h.1
  refine ⟨by rw [length_fro]; omega, fun x hx => h.held x (mem_fro hx), ⟨by rw [length_fro]; omega, by simpa [fro] using (h.2 i hi).1, by simpa [fro] using (h.2 i hi).2.2⟩, fun q hq hlt => by omega, fun x hx => ?_⟩
  obtain ⟨q, hq, rfl⟩ := List.getElem_of_mem (mem_fro hx)
  rw [(h.2 q hq).1]
  omega
theorem Ls.fs {k m : Nat} {L : List Kp} (h : Ls k m L) (i : Nat) (hi : i < L.length) : Fs L ((k - 1 - i : Nat) : Int) i := by
  have hl := h.1
  refine ⟨hi, (h.2 i hi).1, fun j hj hlt => ?_⟩
  rw [(h.2 j hj).1]
  omega
end Go.Proofs.Ythjfobcfdpogeaa
