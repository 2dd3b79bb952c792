/-
  The walk of CellFields: each field of a cell stands at its place, and at no other.
-/
import Derived.Test.YtejpbbgnammgkaaXC
import Derived.BigQuiet
namespace Go.Proofs.Ytejpbbgnammgkaa
set_option linter.unusedVariables false
open Go.RowKit Plain

theorem bytes_drewN' {w : World} {a : Option Addr} {len : Nat} {L : List Int} (h : Bytes w a len L) (n : Nat) : Bytes (w.drewN n) a len L := h.below (below_drewN (Below.refl _ _) n)
theorem sz27 (x : World) : (sizeOf (Try.prog.elem 27)).run Try.prog x = .ok 1 x := by kernel_rfl
theorem un27 : Try.prog.underlying 27 = some (.slice (Try.prog.elem 27)) := by kernel_rfl
theorem slice_h (b o c : Nat) (hc : 96 ≤ c) (x : World) : (Instr.sliceAt 27 (.slice (some ⟨b, o, none⟩) 96 c) none (some (.int .i64 32)) none).run Try.prog x = .ok (.slice (some ⟨b, o + 0, none⟩) 32 (c - 0)) x := by
  rw [run_sliceAt_slice (P := Try.prog) x 27 _ _ _ _ un27, run_slice_h (P := Try.prog) x 27 _ 96 c un27 .i64 32 (by omega) (by omega), sz27, Result.andThen_ok, sliced]
  simp [show ¬ c = 0 by omega, Addr.add_mid]
theorem slice_l (b o c : Nat) (hc : 96 ≤ c) (x : World) : (Instr.sliceAt 27 (.slice (some ⟨b, o, none⟩) 96 c) (some (.int .i64 64)) none none).run Try.prog x = .ok (.slice (some ⟨b, o + 64, none⟩) 32 (c - 64)) x := by
  rw [run_sliceAt_slice (P := Try.prog) x 27 _ _ _ _ un27, run_slice_l (P := Try.prog) x 27 _ 96 c un27 .i64 64 (by omega) (by omega), sz27, Result.andThen_ok, sliced]
  simp [show ¬ c = 64 by omega, Addr.add_mid]
theorem slice_lh (b o c lo hi : Nat) (hc : 96 ≤ c) (h1 : lo < hi) (h2 : hi ≤ 96) (x : World) : (Instr.sliceAt 27 (.slice (some ⟨b, o, none⟩) 96 c) (some (.int .i64 (lo : Int))) (some (.int .i64 (hi : Int))) none).run Try.prog x = .ok (.slice (some ⟨b, o + lo, none⟩) (hi - lo) (c - lo)) x := by
  rw [run_sliceAt_slice (P := Try.prog) x 27 _ _ _ _ un27, run_slice_lh (P := Try.prog) x 27 _ 96 c un27 .i64 .i64 (lo : Int) (hi : Int) (by omega) (by omega) (by omega), sz27, Result.andThen_ok, sliced]
  simp [show ¬ c = lo by omega, Addr.add_mid]
theorem quiet_val {P : Program} {ops : Array Oper} {C : World → Prop} {Q : Act → Prop} {a : Act} {o : Oper} {rest : List Oper} (v : Value) (hv : ∀ x, C x → (execOp a.eval o).run P x = .ok (.value v) x) (hw : Region.wanted o (yielded ops a.tmps) = true) (h : wpQuiet P ops C Q rest (a.put o.dst v)) : wpQuiet P ops C Q (o :: rest) a :=
  wpQuiet_step fun K hK => by
    rw [if_pos hw]
    exact ⟨v, fun x hx => by unfold Oper.quietAt; rw [hv x hx]; exact ⟨rfl, rfl⟩, hK _ h⟩
theorem load_sum {x : World} {b o : Nat} {L : List Int} (h : Bytes x (some ⟨b, o, none⟩) 32 L) : (Instr.loadAt 23 (.pointer (some ⟨b, o, none⟩))).run Try.prog x = .ok (.agg (u8s L)) x :=
  run_loadAt_mid x b o 23 (L.map (Value.int .u8)) _ (range_bytes h) Try.underlying23 rfl (by rw [List.length_map, h.1]; exact infoS)
theorem bytes_sub {w : World} {b o : Nat} {L : List Int} (h : Bytes w (some ⟨b, o, none⟩) 96 L) (lo n : Nat) (hn : lo + n ≤ 96) : Bytes w (some ⟨b, o + lo, none⟩) n ((L.drop lo).take n) := by
  refine ⟨by simp [h.1]; omega, byt_take _ _ (byt_drop _ _ h.2.1), fun hp => ?_⟩
  obtain ⟨b', o', he, hlt, hc⟩ := h.2.2 (by omega)
  simp only [Option.some.injEq, Addr.mk.injEq, and_true] at he
  obtain ⟨rfl, rfl⟩ := he
  refine ⟨b, o + lo, rfl, hlt, fun i hi => ?_⟩
  rw [Nat.add_assoc, hc (lo + i) (by omega)]
  simp [List.getD, hi]
theorem mid_app (X Y Z : List Int) (lo n : Nat) (hX : X.length = lo) (hY : Y.length = n) : ((X ++ (Y ++ Z)).drop lo).take n = Y := by
  rw [List.drop_append_of_le_length (by omega), List.drop_of_length_le (by omega), List.nil_append, List.take_append_of_le_length (by omega), List.take_of_length_le (by omega)]
theorem cut0 {w : World} {b o : Nat} {C : Cl} (hC : Ok C) (h : Bytes w (some ⟨b, o, none⟩) 96 (cb C)) : Bytes w (some ⟨b, o + 0, none⟩) 32 C.r := by
  have := bytes_sub h 0 32 (by omega)
  rwa [show ((cb C).drop 0).take 32 = C.r from mid_app [] C.r _ 0 32 rfl hC.lr] at this
theorem cut1 {w : World} {b o : Nat} {C : Cl} (hC : Ok C) (h : Bytes w (some ⟨b, o, none⟩) 96 (cb C)) : Bytes w (some ⟨b, o + 32, none⟩) 8 (bytesOf C.v 8) := by
  have := bytes_sub h 32 8 (by omega)
  rwa [show ((cb C).drop 32).take 8 = bytesOf C.v 8 from mid_app C.r _ _ 32 8 hC.lr (length_bytesOf _ _)] at this
theorem cut2 {w : World} {b o : Nat} {C : Cl} (hC : Ok C) (h : Bytes w (some ⟨b, o, none⟩) 96 (cb C)) : Bytes w (some ⟨b, o + 40, none⟩) 8 (bytesOf C.c 8) := by
  have := bytes_sub h 40 8 (by omega)
  have e : cb C = (C.r ++ bytesOf C.v 8) ++ (bytesOf C.c 8 ++ (bytesOf C.s 8 ++ (bytesOf C.n 8 ++ C.t))) := by simp [cb]
  rwa [e, mid_app _ _ _ 40 8 (by simp [hC.lr, length_bytesOf]) (length_bytesOf _ _)] at this
theorem cut3 {w : World} {b o : Nat} {C : Cl} (hC : Ok C) (h : Bytes w (some ⟨b, o, none⟩) 96 (cb C)) : Bytes w (some ⟨b, o + 48, none⟩) 8 (bytesOf C.s 8) := by
  have := bytes_sub h 48 8 (by omega)
  have e : cb C = (C.r ++ (bytesOf C.v 8 ++ bytesOf C.c 8)) ++ (bytesOf C.s 8 ++ (bytesOf C.n 8 ++ C.t)) := by simp [cb]
  rwa [e, mid_app _ _ _ 48 8 (by simp [hC.lr, length_bytesOf]) (length_bytesOf _ _)] at this
theorem cut4 {w : World} {b o : Nat} {C : Cl} (hC : Ok C) (h : Bytes w (some ⟨b, o, none⟩) 96 (cb C)) : Bytes w (some ⟨b, o + 56, none⟩) 8 (bytesOf C.n 8) := by
  have := bytes_sub h 56 8 (by omega)
  have e : cb C = (C.r ++ (bytesOf C.v 8 ++ (bytesOf C.c 8 ++ bytesOf C.s 8))) ++ (bytesOf C.n 8 ++ C.t) := by simp [cb]
  rwa [e, mid_app _ _ _ 56 8 (by simp [hC.lr, length_bytesOf]) (length_bytesOf _ _)] at this
theorem cut5 {w : World} {b o : Nat} {C : Cl} (hC : Ok C) (h : Bytes w (some ⟨b, o, none⟩) 96 (cb C)) : Bytes w (some ⟨b, o + 64, none⟩) 32 C.t := by
  have := bytes_sub h 64 32 (by omega)
  have e : cb C = (C.r ++ (bytesOf C.v 8 ++ (bytesOf C.c 8 ++ (bytesOf C.s 8 ++ bytesOf C.n 8)))) ++ (C.t ++ []) := by simp [cb]
  rwa [e, mid_app _ _ _ 64 32 (by simp [hC.lr, length_bytesOf]) hC.lt] at this
theorem str_num (x y : Int) (hx : U64 x) (hy : U64 y) : ((strOfNums (bytesOf x 8)).toList == (strOfNums (bytesOf y 8)).toList) = (x == y) := by
  rw [str_beq _ _ (bytesOf_bd x 8) (bytesOf_bd y 8), Bool.eq_iff_iff, decide_eq_true_iff, beq_iff_eq]
  constructor
  · intro h
    have e : x % 2 ^ (8 * 8) = y % 2 ^ (8 * 8) := by rw [← num_bytesOf x 8 8 (Nat.le_refl _), ← num_bytesOf y 8 8 (Nat.le_refl _), h]
    unfold U64 at hx hy
    omega
  · rintro rfl; rfl
end Go.Proofs.Ytejpbbgnammgkaa
