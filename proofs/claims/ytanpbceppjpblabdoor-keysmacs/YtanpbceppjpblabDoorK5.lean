/-
  The key of a label as plain reckoning; an empty digest laid down; nothing of the program is said here but the types' numbers.
-/
import Derived.Test.YtanpbceppjpblabDoorK4
namespace Go.Proofs.YtanpbceppjpblabDoor
set_option linter.unusedVariables false
open Go.RowKit Plain

theorem named (L : List Int) : ∃ X, Box (L = X) := ⟨L, ⟨rfl⟩⟩
theorem z32 : fil8 [] 32 = #[.int .u8 0, .int .u8 0, .int .u8 0, .int .u8 0, .int .u8 0, .int .u8 0, .int .u8 0, .int .u8 0, .int .u8 0, .int .u8 0, .int .u8 0, .int .u8 0, .int .u8 0, .int .u8 0, .int .u8 0, .int .u8 0, .int .u8 0, .int .u8 0, .int .u8 0, .int .u8 0, .int .u8 0, .int .u8 0, .int .u8 0, .int .u8 0, .int .u8 0, .int .u8 0, .int .u8 0, .int .u8 0, .int .u8 0, .int .u8 0, .int .u8 0, .int .u8 0] := rfl
theorem built25 : (Tryd.prog.built 25 []) = some (fil8 [] 32) := by kernel_rfl
theorem wpList_build25 {ops : Array Oper} {rest : List Oper} {o : Oper} {a : Act} {w : World} {Q : Exit → Act → World → Prop} (hg : o.guard = none) (ho : o.op = .build 25 #[])
    (h : wpList Tryd.prog ops Q rest (a.put o.dst (.agg (fil8 [] 32))) w) : wpList Tryd.prog ops Q (o :: rest) a w := by
  have e : Tryd.prog.built 25 ((#[] : Array (Nat × Operand)).map fun (i, x) => (i, a.eval x)).toList = some (fil8 [] 32) := by
    simpa using built25
  refine wpList_build hg 25 _ ho ?_ ?_
  · rw [e]; rfl
  · rw [e]; exact h
theorem all_fil8 : (fil8 [] 32).all (·.oneCell') = true := all_u8s _
def derS (K : List Int) (S : ByteArray) : List Int := if K.length = 32 ∧ 1 ≤ S.size ∧ S.size ≤ 64 then mac K (nums S ++ [1]) else List.replicate 32 0
def derE (K : List Int) (S : ByteArray) : Int := if K.length = 32 ∧ 1 ≤ S.size ∧ S.size ≤ 64 then 0 else 1
theorem length_derS (K : List Int) (S : ByteArray) : (derS K S).length = 32 := by
  unfold derS
  split
  · exact length_mac _ _
  · simp
theorem byt_derS (K : List Int) (S : ByteArray) : Byt (derS K S) := by
  unfold derS
  split
  · exact byt_mac _ _
  · exact byt_zeros _
theorem str_empty {S : ByteArray} (h : S.size = 0) : S = { data := #[] } := by
  apply ByteArray.ext
  exact Array.eq_empty_of_size_eq_zero h
theorem str_ne2 {S : ByteArray} (h : ¬ S.size = 0) : S.toList.isEmpty = false := by
  rw [ByteArray.toList_eq]
  cases hd : S.data.toList with
  | nil =>
    exfalso
    apply h
    have : S.data.toList.length = 0 := by rw [hd]; rfl
    exact this
  | cons b l => rfl
theorem str_ne {S : ByteArray} (h : ¬ S.size = 0) : decide (S = { data := #[] }) = false := by
  rw [decide_eq_false_iff_not]
  intro e
  rw [e] at h
  exact h rfl
end Go.Proofs.YtanpbceppjpblabDoor
