/-
  That the order of the text is one of the orders of a great statement, asked ten operations at a time; nothing of the program is said here.
-/
import Derived.Test.YtejpbbgnammgkaaXF
namespace Go.Proofs.Ytejpbbgnammgkaa
set_option linter.unusedVariables false
open Go.RowKit Plain

/-- The first k of n are listed. -/
def lst (n k : Nat) : Array Bool := (List.replicate k true ++ List.replicate (n - k) false).toArray
theorem lst_zero (n : Nat) : lst n 0 = Array.replicate n false := by
  apply Array.toList_inj.1
  simp [lst]
theorem lst_set (n k : Nat) (h : k < n) : (lst n k).setIfInBounds k true = lst n (k + 1) := by
  apply Array.toList_inj.1
  obtain ⟨m, hm⟩ : ∃ m, n - k = m + 1 := ⟨n - k - 1, by omega⟩
  have hm' : n - (k + 1) = m := by omega
  simp only [lst, hm, hm', Array.toList_setIfInBounds, List.toList_toArray]
  rw [List.set_append_right _ _ (by simp), List.length_replicate, Nat.sub_self, List.replicate_succ, List.set_cons_zero, List.replicate_succ']
  simp
/-- Operation k may come next, behind the first k, and may be taken first. -/
def lexAt (ops : Array Oper) (n k : Nat) : Bool := decide (n ≤ k) || ((Region.ready .any ops (lst n k)).contains k && Region.free .any ops (lst n k) k)
def lexTen (ops : Array Oper) (n c : Nat) : Bool := (List.range 10).all fun i => lexAt ops n (10 * c + i)
theorem lex_from (ops : Array Oper) (n : Nat) (h : ∀ k, k < n → lexAt ops n k = true) (he : (Region.ready .any ops (lst n n)).isEmpty = true) : ∀ fuel k, k + fuel = n → Region.lexFrom .any ops fuel k (lst n k) = true
  | 0, k, hk => by
    obtain rfl : k = n := by omega
    exact he
  | fuel + 1, k, hk => by
    have h1 := h k (by omega)
    have hd : decide (n ≤ k) = false := by simp; omega
    rw [lexAt, hd, Bool.false_or] at h1
    rw [Region.lexFrom, h1, lst_set n k (by omega), lex_from ops n h he fuel (k + 1) (by omega)]
    rfl
theorem lex_ten {ops : Array Oper} {n c : Nat} (h : lexTen ops n c = true) (k : Nat) (h1 : 10 * c ≤ k) (h2 : k < 10 * c + 10) : lexAt ops n k = true := by
  have := List.all_eq_true.1 h (k - 10 * c) (by simp; omega)
  rwa [show 10 * c + (k - 10 * c) = k by omega] at this
theorem lex_all (ops : Array Oper) (n : Nat) (hn : ops.size = n) (h100 : n ≤ 100) (hs : Region.noSelect ops = true) (he : (Region.ready .any ops (lst n n)).isEmpty = true)
    (c0 : lexTen ops n 0 = true) (c1 : lexTen ops n 1 = true) (c2 : lexTen ops n 2 = true) (c3 : lexTen ops n 3 = true) (c4 : lexTen ops n 4 = true) (c5 : lexTen ops n 5 = true) (c6 : lexTen ops n 6 = true) (c7 : lexTen ops n 7 = true) (c8 : lexTen ops n 8 = true) (c9 : lexTen ops n 9 = true) : Region.lexB .any ops = true := by
  have h : ∀ k, k < n → lexAt ops n k = true := by
    intro k hk
    by_cases a0 : k < 10
    · exact lex_ten c0 k (by omega) (by omega)
    by_cases a1 : k < 20
    · exact lex_ten c1 k (by omega) (by omega)
    by_cases a2 : k < 30
    · exact lex_ten c2 k (by omega) (by omega)
    by_cases a3 : k < 40
    · exact lex_ten c3 k (by omega) (by omega)
    by_cases a4 : k < 50
    · exact lex_ten c4 k (by omega) (by omega)
    by_cases a5 : k < 60
    · exact lex_ten c5 k (by omega) (by omega)
    by_cases a6 : k < 70
    · exact lex_ten c6 k (by omega) (by omega)
    by_cases a7 : k < 80
    · exact lex_ten c7 k (by omega) (by omega)
    by_cases a8 : k < 90
    · exact lex_ten c8 k (by omega) (by omega)
    · exact lex_ten c9 k (by omega) (by omega)
  rw [Region.lexB, hs, hn, ← lst_zero, lex_from ops n h he n 0 (by omega)]
  rfl
end Go.Proofs.Ytejpbbgnammgkaa
