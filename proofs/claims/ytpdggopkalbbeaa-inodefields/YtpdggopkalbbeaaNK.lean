/-
  Parts of an inode's bytes; Go's == on three numbers; a made slice in a drawn region.
-/
import Derived.Test.YtpdggopkalbbeaaNI
import Derived.Test.YtpdggopkalbbeaaNE
import Derived.Deep.OwnRows
namespace Go.Proofs.Ytpdggopkalbbeaa
set_option linter.unusedVariables false
open Go.RowKit Plain

theorem nb_drop (N : Nd) : (nb N).drop 18 = zro 14 := by
  have h2 := length_nb0 N
  have h3 := length_rowsOf (ns N) 2 5
  have e : (nb0 N ++ rowsOf (ns N) 2 5).length = 18 := by rw [List.length_append]; omega
  rw [nb_eq, List.drop_append_of_le_length (by omega), List.drop_of_length_le (by omega), List.nil_append]
  rfl
theorem byte_one {w x : World} {b : Nat} {N : Nd} (h : Bytes w (some ⟨b, 0, none⟩) 32 (nb N)) (hb : Below w.heap.size w x) : x.cell? ⟨b, 1, none⟩ = some (.int .u8 0) := by
  obtain ⟨b', o', e, _, hc⟩ := (h.below hb).2.2 (by omega)
  simp only [Option.some.injEq, Addr.mk.injEq, and_true] at e
  obtain ⟨rfl, rfl⟩ := e
  have := hc 1 (by omega)
  rwa [nb_one] at this
theorem byte_zero {w : World} {b : Nat} {N : Nd} (h : Bytes w (some ⟨b, 0, none⟩) 32 (nb N)) : w.cell? ⟨b, 0, none⟩ = some (.int .u8 N.k) := by
  obtain ⟨b', o', e, _, hc⟩ := h.2.2 (by omega)
  simp only [Option.some.injEq, Addr.mk.injEq, and_true] at e
  obtain ⟨rfl, rfl⟩ := e
  have := hc 0 (by omega)
  rwa [show (nb N).getD 0 0 = N.k by rw [nb_parts]; rfl] at this
theorem exec_strF {o : Oper} {ρ : Operand → Value} {w' : World} (x y : Operand) (ty : TypeId) (ho : o.op = .binOp .neq 9 x y ty) (A : List Int) (hA : Byt A) (hx : ρ x = .string (strOfNums A)) (hy : ρ y = .string (strOfNums A)) :
    (execOp ρ o).run Try.prog w' = .ok (.value (.bool false)) w' := by
  have := exec_strN x y ty ho A A hA hA hx hy (w' := w')
  simpa using this
section
variable {md : Region.Mode} {ops : Array Oper} {Q : Exit → Act → World → Prop}
/-- A slice of noughts is made, in a region where nothing else may come now. -/
theorem make_lat {i : Nat} {o : Oper} {fuel : Nat} {listed : Array Bool} {a : Act} {w : World} (ho : ops[i]? = some o) (hr : Region.ready md ops listed = [i]) (hw : Region.wanted o (yielded ops a.tmps) = true) (n : Nat) (hn : n ≤ 1000000) (hop : o.op = Op.makeSlice 27 (.const (.int .i64 (n : Int))) (.const (.int .i64 (n : Int))))
    (h : ∀ w', Bytes w' (some ⟨w.heap.size, 0, none⟩) n (zro n) → Below w.heap.size w w' → wpAnyH Try.prog md ops Q (Seq.Lat w') fuel (listed.setIfInBounds i true) (a.put o.dst (.slice (some ⟨w.heap.size, 0, none⟩) n n)) w') :
    wpAnyH Try.prog md ops Q (Seq.Lat w) (fuel + 1) listed a w := by
  obtain ⟨i0, hi, hz0, hz1, hz2⟩ := info_parts info5
  refine Seq.only_lat ho hr (fun K' hK => ?_)
  rw [if_pos hw]
  obtain ⟨w', hrun, r1, r2⟩ := run_make_full (P := Try.prog) w w.heap.size 27 5 i0 (.int .u8 0) 1 Try.underlying27 hi hz0 hz1 .i64 .i64 n (by rw [hz2]; omega) (by unfold maxLen; omega) (Nat.le_refl _)
  have HR := made_row r1
  have hb := (Below.refl w.heap.size w).grown r2 (Nat.le_refl _) (by simp)
  have hz : (List.replicate n (Value.int .u8 0)) = (zro n).map (Value.int .u8) := by simp [zro]
  rw [hz] at HR
  have hB : Bytes w' (some ⟨w.heap.size, 0, none⟩) n (zro n) := by
    have := bytes_of_row (byt_zeros n) HR
    have hl : (zro n).length = n := by simp [zro]
    unfold zro at this
    simpa [zro] using this
  unfold Oper.wp
  simp [execOp, hop, Act.eval, hrun, Result.andThen]
  exact hK.out _ _ hb (h w' hB hb)
end
end Go.Proofs.Ytpdggopkalbbeaa
