/-
  The walk of BuffersHold: a block that is held stays, whatever is put in; there are never more than may be; one that is none keeps nothing.
-/
import Derived.Test.YthjfobcfdpogeaaBN
namespace Go.Proofs.Ythjfobcfdpogeaa
set_option linter.unusedVariables false
open Go.RowKit Plain

/-- At most K blocks, of other numbers each; the block 7 is among them, held once, its bytes as they were put in; no other one is held. -/
structure Hd (K : Nat) (v : Int) (L : List Kp) : Prop where
  len : L.length ≤ K
  nd : (L.map (·.b)).Nodup
  is7 : ∀ x ∈ L, x.b = 7 → x.h = 1 ∧ x.bs = o160 v
  no7 : ∀ x ∈ L, x.b ≠ 7 → x.h = 0
  has : ∃ x ∈ L, x.b = 7
theorem Hd.cons_erase {K : Nat} {v : Int} {L : List Kp} (h : Hd K v L) (i : Nat) (hi : i < L.length) (h7 : L[i].b ≠ 7) (y : Kp) (hy : y.b ≠ 7) (hh : y.h = 0) (hn : ∀ x ∈ L.eraseIdx i, x.b ≠ y.b) : Hd K v (y :: L.eraseIdx i) := by
  have hl := h.len
  refine ⟨?_, ?_, fun x hx h7' => ?_, fun x hx h7' => ?_, ?_⟩
  · rw [List.length_cons, List.length_eraseIdx, if_pos hi]
    omega
  · rw [List.map_cons, List.nodup_cons]
    refine ⟨fun hm => ?_, ?_⟩
    · obtain ⟨x, hx, he⟩ := List.mem_map.1 hm
      exact hn x hx he
    · exact (List.Sublist.map _ (List.eraseIdx_sublist L i)).nodup h.nd
  · rcases List.mem_cons.1 hx with rfl | hx
    · exact absurd h7' hy
    · exact h.is7 x (List.mem_of_mem_eraseIdx hx) h7'
  · rcases List.mem_cons.1 hx with rfl | hx
    · exact hh
    · exact h.no7 x (List.mem_of_mem_eraseIdx hx) h7'
  · obtain ⟨x, hx, he⟩ := h.has
    obtain ⟨j, hj, rfl⟩ := List.getElem_of_mem hx
    refine ⟨L[j], List.mem_cons_of_mem _ (List.mem_eraseIdx_iff_getElem.2 ⟨j, hj, fun e => ?_, rfl⟩), he⟩
    subst e
    exact h7 he
theorem Hd.cons {K : Nat} {v : Int} {L : List Kp} (h : Hd K v L) (hl : L.length < K) (y : Kp) (hy : y.b ≠ 7) (hh : y.h = 0) (hn : No L y.b) : Hd K v (y :: L) := by
  refine ⟨by rw [List.length_cons]; omega, ?_, fun x hx h7' => ?_, fun x hx h7' => ?_, ?_⟩
  · rw [List.map_cons, List.nodup_cons]
    refine ⟨fun hm => ?_, h.nd⟩
    obtain ⟨x, hx, he⟩ := List.mem_map.1 hm
    exact hn x hx he
  · rcases List.mem_cons.1 hx with rfl | hx
    · exact absurd h7' hy
    · exact h.is7 x hx h7'
  · rcases List.mem_cons.1 hx with rfl | hx
    · exact hh
    · exact h.no7 x hx h7'
  · obtain ⟨x, hx, he⟩ := h.has
    exact ⟨x, List.mem_cons_of_mem _ hx, he⟩
theorem nd_ne {X : List Int} (h : X.Nodup) (i j : Nat) (hi : i < X.length) (hj : j < X.length) (hne : i ≠ j) : X[i] ≠ X[j] := by
  have hp := List.pairwise_iff_getElem.1 h
  rcases Nat.lt_or_gt_of_ne hne with hl | hl
  · exact hp i j hi hj hl
  · exact (hp j i hj hi hl).symm
theorem Hd.free {K : Nat} {v : Int} {L : List Kp} (h : Hd K v L) (hK : 2 ≤ L.length) : ∃ i, Lf L i := by
  rcases lf_or L with ha | hi
  · have h0 : L[0].b = 7 := by
      apply Classical.byContradiction
      intro hn
      exact ha _ (List.getElem_mem (by omega)) (h.no7 _ (List.getElem_mem (by omega)) hn)
    have h1 : L[1].b = 7 := by
      apply Classical.byContradiction
      intro hn
      exact ha _ (List.getElem_mem (by omega)) (h.no7 _ (List.getElem_mem (by omega)) hn)
    have := nd_ne h.nd 0 1 (by simp; omega) (by simp; omega) (by decide)
    simp [h0, h1] at this
  · exact hi
theorem put_hd (w0 w : World) (C K : Nat) (L : List Kp) (v : Int) (h : St w0 w C K L) (hh : Hd K v L) (hK : 2 ≤ K) (hK2 : K < 1000) (b : Int) (hU : U64 b) (hb : b ≠ 7) (S c : Nat) (bs : List Int) (h8 : B8 w S bs) (hl : bs.length = 160) :
    Calls Try.prog 11 #[.pointer (some ⟨C, 0, none⟩), .int .u64 b, .slice (some ⟨S, 0, none⟩) 160 c] w fun e w' => e = .returned (.int .i64 0) ∧ ∃ y L', y.b = b ∧ St w0 w' C K (y :: L') ∧ Hd K v (y :: L') := by
  have hlen := hh.len
  rcases fs_or L b with hn | ⟨i, hi⟩
  · by_cases hlt : L.length < K
    · refine (put_new' w0 w C K L L h b hU hn (.fit L (by omega)) S c bs h8 hl (by omega)).mono ?_
      rintro e w' ⟨rfl, ⟨y, ly, hs⟩, _⟩
      exact ⟨rfl, y, L, ly.b, hs, hh.cons hlt y (by rw [ly.b]; exact hb) ly.h (by rw [ly.b]; exact hn)⟩
    · obtain ⟨i, hi⟩ := hh.free (by omega)
      have hil : i < L.length := hi.1
      have hr : Rm K L (L.eraseIdx i) true := .step L _ true i (by omega) hi (.fit _ (by rw [List.length_eraseIdx, if_pos hil]; omega))
      refine (put_new' w0 w C K L _ h b hU hn hr S c bs h8 hl (by omega)).mono ?_
      rintro e w' ⟨rfl, ⟨y, ly, hs⟩, _⟩
      refine ⟨rfl, y, _, ly.b, hs, hh.cons_erase i hil (fun e => ?_) y (by rw [ly.b]; exact hb) ly.h (fun x hx => by rw [ly.b]; exact hn x (List.mem_of_mem_eraseIdx hx))⟩
      have h1 := (hh.is7 _ (List.getElem_mem hil) e).1
      obtain ⟨_, h2, _⟩ := hi
      omega
  · have hil : i < L.length := hi.1
    have hib : L[i].b = b := by obtain ⟨_, h1, _⟩ := hi; exact h1
    refine (put_old' w0 w C K L h b i hil hi S c bs h8 hl).mono ?_
    rintro e w' ⟨rfl, ⟨y, ly, hs⟩, _⟩
    refine ⟨rfl, y, _, ly.b, hs, hh.cons_erase i hil (by rw [hib]; exact hb) y (by rw [ly.b]; exact hb) (by rw [ly.h]; exact hh.no7 _ (List.getElem_mem hil) (by rw [hib]; exact hb)) (fun x hx e => ?_)⟩
    obtain ⟨j, hj, hne, rfl⟩ := List.mem_eraseIdx_iff_getElem.1 hx
    have := nd_ne hh.nd j i (by simpa using hj) (by simpa using hil) hne
    simp [e, ly.b, hib] at this
theorem wp_val {o : Oper} {a : Act} {w : World} {K : Act → World → Prop} {Q : Exit → Act → World → Prop} (v : Value) (hr : (execOp a.eval o).run Try.prog w = .ok (.value v) w) (h : K (a.put o.dst v) w) : Oper.wp Try.prog o a w K Q := by
  unfold Oper.wp
  rw [hr]
  exact h
theorem exec_idx64 {op : Oper} {ρ : Operand → Value} {w' : World} (x y : Operand) (ho : op.op = .indexAddr 46 x y) (b o len cap j : Nat) (hx : ρ x = .slice (some ⟨b, o, none⟩) len cap) (hy : ρ y = .int .i64 (j : Int)) (hj : j < len) :
    (execOp ρ op).run Try.prog w' = .ok (.value (.pointer (some ⟨b, o + j, none⟩))) w' := by
  have hc : (0 : Int) ≤ (j : Int) ∧ (j : Int) < (len : Int) := by omega
  unfold execOp
  simp [ho, hx, hy, Instr.indexAt, asIntOf, Sem.run_bind, run_underlying Try.underlying46, hc, Addr.add_mid]
  intro hh; omega
theorem exec_neU {o : Oper} {ρ : Operand → Value} {w' : World} (x y : Operand) (ty : TypeId) (ho : o.op = .binOp .neq 29 x y ty) (a : Int) (hx : ρ x = .int .u64 a) (hy : ρ y = .int .u64 a) :
    (execOp ρ o).run Try.prog w' = .ok (.value (.bool false)) w' := by
  unfold execOp
  simp [ho, hx, hy, eqGuard, binOp, Op.intCmp]
theorem exec_gtF {o : Oper} {ρ : Operand → Value} {w' : World} (x y : Operand) (ty : TypeId) (ho : o.op = .binOp .gtr 3 x y ty) (a b : Int) (h : ¬ b < a) (hx : ρ x = .int .i64 a) (hy : ρ y = .int .i64 b) :
    (execOp ρ o).run Try.prog w' = .ok (.value (.bool false)) w' := by
  unfold execOp
  simp [ho, hx, hy, eqGuard, binOp, Op.intCmp, h]
end Go.Proofs.Ythjfobcfdpogeaa
