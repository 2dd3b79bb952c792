/-
  A digest's digits with one of them put in another's place: what is read of them; nothing of the program is said here but the types' numbers.
-/
import Derived.Test.YtanpbceppjpblaaDoorQA
import Derived.Test.YtanpbceppjpblaaDoorB3
namespace Go.Proofs.YtanpbceppjpblaaDoor
set_option linter.unusedVariables false
open Go.RowKit Plain

theorem vd_inj (c d : Int) (hc : vo c = true) (hd : vo d = true) (h : vd c = vd d) : c = d := by
  simp only [vo, Bool.or_eq_true, decide_eq_true_eq] at hc hd
  unfold vd at h
  split at h <;> split at h <;> (try split at h) <;> omega
theorem set_getD (L : List Int) (k i : Nat) (c : Int) (h : k < L.length) : (L.set k c).getD i 0 = if i = k then c else L.getD i 0 := by
  simp only [List.getD, List.getElem?_set]
  by_cases e : i = k
  · subst e; simp [h]
  · have e' : ¬ k = i := fun h => e h.symm
    simp [e, e']
theorem rdl_getD (T : List Int) (n i : Nat) (h : i < n) : (rdl T n).getD i 0 = rdb T i := by
  induction n with
  | zero => omega
  | succ n ih =>
    rw [rdl, getD_app, length_rdl]
    by_cases e : i < n
    · rw [if_pos e]; exact ih e
    · obtain rfl : i = n := by omega
      rw [if_neg e, Nat.sub_self]; rfl
/-- Digits read with another digit at place k are the digest just if it is the same digit. -/
theorem rdl_set (D : List Int) (hD : Byt D) (hl : D.length = 32) (k : Nat) (hk : k < 64) (c : Int) (hc : vo c = true) : (rdl ((hexL D 32).set k c) 32 = D) ↔ (c = (hexL D 32).getD k 0) := by
  have hL := length_hexL D 32
  have hvk := vo_hexL D 32 k hD (by omega)
  have e0 := rdl_hexL D 32 hD hl
  constructor
  · intro h
    have h1 : (rdl ((hexL D 32).set k c) 32).getD (k / 2) 0 = D.getD (k / 2) 0 := by rw [h]
    have h2 : (rdl (hexL D 32) 32).getD (k / 2) 0 = D.getD (k / 2) 0 := by rw [e0]
    rw [rdl_getD _ _ _ (by omega)] at h1 h2
    rw [← h2] at h1
    unfold rdb at h1
    rw [set_getD _ _ _ _ (by omega), set_getD _ _ _ _ (by omega)] at h1
    have b1 := vd_bd c
    have b2 := vd_bd ((hexL D 32).getD (2 * (k / 2)) 0)
    have b3 := vd_bd ((hexL D 32).getD (2 * (k / 2) + 1) 0)
    rcases (by omega : k = 2 * (k / 2) ∨ k = 2 * (k / 2) + 1) with e | e
    · rw [if_pos e.symm, if_neg (by omega)] at h1
      have h3 : vd c = vd ((hexL D 32).getD (2 * (k / 2)) 0) := by omega
      rw [← e] at h3
      exact vd_inj c _ hc hvk h3
    · rw [if_neg (by omega), if_pos e.symm] at h1
      have h3 : vd c = vd ((hexL D 32).getD (2 * (k / 2) + 1) 0) := by omega
      rw [← e] at h3
      exact vd_inj c _ hc hvk h3
  · intro h
    have e1 : (hexL D 32).set k c = hexL D 32 := by
      apply List.ext_getElem?
      intro i
      rw [List.getElem?_set]
      split
      · rename_i e
        subst e
        rw [if_pos (by omega), getD_of_lt _ _ (by omega), h]
      · rfl
    rw [e1, e0]
theorem set_split (L : List Int) (k : Nat) (c : Int) (h : k < L.length) : L.take k ++ [c] ++ L.drop (k + 1) = L.set k c := by
  rw [List.set_eq_take_append_cons_drop, if_pos h]
  simp
theorem byt_set (L : List Int) (k : Nat) (c : Int) (hL : Byt L) (hc : 0 ≤ c ∧ c ≤ 255) (h : k < L.length) : Byt (L.set k c) := by
  intro i
  rw [set_getD L k i c h]
  split
  · exact hc
  · exact hL i
theorem str_take (L : List Int) (p : Nat) (h : p ≤ L.length) : (strOfNums L).extract 0 p = strOfNums (L.take p) := by
  apply ByteArray.ext
  rw [ByteArray.data_extract]
  simp [strOfNums]
theorem str_drop (L : List Int) (p n : Nat) (h : L.length = n) : (strOfNums L).extract p n = strOfNums (L.drop p) := by
  apply ByteArray.ext
  rw [ByteArray.data_extract]
  subst h
  simp [strOfNums]
  exact List.take_of_length_le (by simp)
theorem str_set (D : List Int) (k : Nat) (hk : k < 64) (c : Int) : (strOfNums (hexL D 32)).extract 0 k ++ strOfNums [c] ++ (strOfNums (hexL D 32)).extract (k + 1) 64 = strOfNums ((hexL D 32).set k c) := by
  have hL := length_hexL D 32
  rw [str_take _ _ (by omega), str_drop _ _ 64 (by omega), str_app, str_app, set_split _ _ _ (by omega)]
theorem read_yes (N : ByteArray) (L T : List Int) (w : World) (hn : nums N = L) (hs : N.size = 64) (hd : allDig L = true) (hT : rdl L 32 = T) : Calls Tryd.prog 15 #[.string N] w fun e w' => e = .returned (.tuple #[.agg (u8s T), .int .i64 0]) ∧ Below w.heap.size w w' := by
  subst hn
  subst hT
  refine (read_dig N w hs).mono ?_
  rintro e w' ⟨rfl, hw⟩
  exact ⟨rdEnd_yes hd, hw⟩
theorem read_no (N : ByteArray) (L : List Int) (w : World) (hn : nums N = L) (hs : N.size = 64) (hd : allDig L = false) : Calls Tryd.prog 15 #[.string N] w fun e w' => e = .returned (.tuple #[.agg (u8s (List.replicate 32 0)), .int .i64 11]) ∧ Below w.heap.size w w' := by
  subst hn
  refine (read_dig N w hs).mono ?_
  rintro e w' ⟨rfl, hw⟩
  exact ⟨rdEnd_no hd, hw⟩
/-- What is read of a digest's digits with another byte at place k. -/
theorem read_set (D : List Int) (hD : Byt D) (hl : D.length = 32) (k : Nat) (hk : k < 64) (c : Int) (hc : 0 ≤ c ∧ c ≤ 255) (N : ByteArray) (hN : strOfNums ((hexL D 32).set k c) = N) :
    ∃ T E, T.length = 32 ∧ (∀ w, Calls Tryd.prog 15 #[.string N] w fun e w' => e = .returned (.tuple #[.agg (u8s T), .int .i64 E]) ∧ Below w.heap.size w w') ∧
      (vo c = true → E = 0 ∧ decide (T = D) = decide (c = (hexL D 32).getD k 0)) ∧ (vo c = false → E = 11 ∧ T = List.replicate 32 0) := by
  have hL := length_hexL D 32
  have hb := byt_set _ k c (byt_hexL D 32) hc (by omega)
  have hs : N.size = 64 := by rw [← hN, strOfNums_size, List.length_set, hL]
  have hn : nums N = (hexL D 32).set k c := by rw [← hN]; exact nums_str _ hb
  cases hv : vo c
  · have hd : allDig ((hexL D 32).set k c) = false := allDig_no k hk (by rw [set_getD _ _ _ _ (by omega), if_pos rfl]; exact hv)
    exact ⟨List.replicate 32 0, 11, List.length_replicate, fun w => read_no N _ w hn hs hd, (fun h => by cases h), fun _ => ⟨rfl, rfl⟩⟩
  · have hd : allDig ((hexL D 32).set k c) = true := allDig_yes (fun i hi => by
      rw [set_getD _ _ _ _ (by omega)]
      split
      · exact hv
      · exact vo_hexL D 32 i hD (by omega))
    obtain ⟨T, hT⟩ : ∃ T, Box (rdl ((hexL D 32).set k c) 32 = T) := ⟨_, ⟨rfl⟩⟩
    have hTl : T.length = 32 := by rw [← hT.out]; exact length_rdl _ _
    have hTd := rdl_set D hD hl k hk c hv
    rw [hT.out] at hTd
    exact ⟨T, 0, hTl, fun w => read_yes N _ T w hn hs hd hT.out, fun _ => ⟨rfl, decide_eq_decide.2 hTd⟩, (fun h => by cases h)⟩
end Go.Proofs.YtanpbceppjpblaaDoor
