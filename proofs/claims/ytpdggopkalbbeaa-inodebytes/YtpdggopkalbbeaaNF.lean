/-
  What the reference's Put and Get of layer 19 answer; the law's modelOf.
-/
import Derived.Test.YtpdggopkalbbeaaNC
namespace Go.Proofs.Ytpdggopkalbbeaa
set_option linter.unusedVariables false
open Go.RowKit Plain

/-- The reference's inode lies in block S: it has the same cells. -/
def Lies' (w : World) (S : Nat) (N : Nd) : Prop := w.heap[S]? = some (.cells (nc N) 35 (0, 0))
theorem Lies'.lt {w : World} {g : Nat} {N : Nd} (h : Lies' w g N) : g < w.heap.size := (Array.getElem?_eq_some_iff.1 h).1
theorem Lies'.below {w w' : World} {g : Nat} {N : Nd} (h : Lies' w g N) (hb : Below w.heap.size w w') : Lies' w' g N := (hb.block g h.lt).trans h
theorem Lies'.on {w w' : World} {g B : Nat} {N : Nd} (h : Lies' w g N) (hb : Below B w w') (hg : g < B) : Lies' w' g N := (hb.block g hg).trans h
theorem Lies'.cell {w : World} {g : Nat} {N : Nd} (h : Lies' w g N) (k : Nat) : w.cell? ⟨g, k, none⟩ = (nc N)[k]? := cell_of_row _ _ _ _ _ _ h
theorem Lies'.froz {w : World} {g : Nat} {N : Nd} (h : Lies' w g N) (k : Nat) : w.frozen? ⟨g, k, none⟩ = false := frozen_of_row _ _ _ _ _ h
theorem Lies'.num {w : World} {g : Nat} {N : Nd} (h : Lies' w g N) (k : Nat) (hk : k < 5) : w.cell? ⟨g, 3 + k, none⟩ = some (.int .u16 ((ns N).getD k 0)) := by rw [h.cell, nc_num N k hk]
theorem Lies'.set {w : World} {g : Nat} {N : Nd} (h : Lies' w g N) (k : Nat) (hk : k < 5) (x : Int) : Lies' (w.setCell ⟨g, 3 + k, none⟩ (.int .u16 x)) g (setB N k x) := by
  unfold Lies'
  rw [heap_setCell_same w g (3 + k) _ _ _ h, nc_set N k hk x]
/-- What the reference's Put has put so far, behind the inode's own block S. -/
def Pr (N : Nd) (w1 wr : World) (S : Nat) (v : Value) (n : Nat) (A : List Int) : Prop :=
  wr.ownsRow (S + 1) 5 1 v n (A.map (Value.int .u8)) ∧ Below (S + 1) w1 wr ∧ S + 1 ≤ wr.heap.size ∧ Lies' wr S N
theorem Pr.below {N : Nd} {w1 wr w' : World} {S n : Nat} {v : Value} {A : List Int} (h : Pr N w1 wr S v n A) (hb : Below wr.heap.size wr w') : Pr N w1 w' S v n A :=
  ⟨own_later h.1 hb, h.2.1.trans (hb.mono h.2.2.1), Nat.le_trans h.2.2.1 hb.size, h.2.2.2.below hb⟩
theorem Pr.app {N : Nd} {w1 wr w' : World} {S n m : Nat} {v v' : Value} {A L : List Int} (h : Pr N w1 wr S v n A) (hw : Box (w'.ownsRow (S + 1) 5 1 v' (n + m) ((A ++ L).map (Value.int .u8)) ∧ Below (S + 1) wr w' ∧ S + 1 ≤ w'.heap.size)) : Pr N w1 w' S v' (n + m) (A ++ L) :=
  ⟨hw.out.1, h.2.1.trans hw.out.2.1, hw.out.2.2, h.2.2.2.on hw.out.2.1 (by omega)⟩
def zro (k : Nat) : List Int := List.replicate k 0
theorem zro_snoc (A : List Int) (k : Nat) : A ++ zro k ++ [0] = A ++ zro (k + 1) := by rw [List.append_assoc, zro, zro, List.replicate_succ']
theorem byt_zro (A : List Int) (k : Nat) (h : Byt A) : Byt (A ++ zro k) := byt_app _ _ h (byt_zeros k)
theorem byt_zero : Byt [0] := byt_cons _ _ (by omega) byt_nil
def vlen : Value → Nat
  | .slice _ n _ => n
  | _ => 0
theorem zstep {N : Nd} {w1 wr w8 : World} {S k : Nat} {v v8 : Value} {A : List Int} (h : Pr N w1 wr S v (18 + k) (A ++ zro k)) (hw : Box (w8.ownsRow (S + 1) 5 1 v8 (18 + k + 1) ((A ++ zro k ++ [0]).map (Value.int .u8)) ∧ Below (S + 1) wr w8 ∧ S + 1 ≤ w8.heap.size)) : Box (Pr N w1 w8 S v8 (18 + (k + 1)) (A ++ zro (k + 1))) ∧ vlen v8 = 18 + k + 1 := by
  have h1 := h.app hw
  rw [zro_snoc] at h1
  refine ⟨⟨h1⟩, ?_⟩
  obtain ⟨a8, c8, e⟩ := own_form h1.1
  subst e
  rfl

set_option maxRecDepth 20000 in
set_option maxHeartbeats 4000000 in
theorem rnput_any (N : Nd) (w : World) (hN : OkN N) :
    Calls Try.prog 12 #[.agg (nc N)] w fun e w' => e = .returned (.string (strOfNums (nb N))) ∧ Below w.heap.size w w' := by
  obtain ⟨S, hS⟩ : ∃ S, w.heap.size = S := ⟨_, rfl⟩
  have HS : Box (w.heap.size = S) := ⟨hS⟩
  have HN : Box (OkN N) := ⟨hN⟩
  have H1 : Box (Lies' (w.alloc (.cells (nc N) 35)) S N ∧ (w.alloc (.cells (nc N) 35)).heap.size = S + 1 ∧ Below S w (w.alloc (.cells (nc N) 35))) := ⟨al_at hS, by simp [hS], (Below.refl _ _).alloc (by omega) _⟩
  clear hS hN
  go_enter Try.func12, Try.ntmps12
  go_upto_region 1 with fail
  rw [HS.out]
  change Code.wp _ _ _ _ (w.alloc (.cells (nc N) 35))
  generalize w.alloc (.cells (nc N) 35) = w1 at H1 ⊢
  have c0 : w1.cell? ⟨S, 0, none⟩ = some (.int .u8 N.k) := H1.out.1.cell 0
  have H2 : Box (Bytes (w1.alloc (.cells #[.int .u8 N.k, .int .u8 0] 5)) (some ⟨w1.heap.size, 0, none⟩) 2 [N.k, 0] ∧ Lies' (w1.alloc (.cells #[.int .u8 N.k, .int .u8 0] 5)) S N ∧ Below (S + 1) w1 (w1.alloc (.cells #[.int .u8 N.k, .int .u8 0] 5)) ∧ S + 1 ≤ (w1.alloc (.cells #[.int .u8 N.k, .int .u8 0] 5)).heap.size) := ⟨byt_lits w1 [N.k, 0] (byt_cons _ _ HN.out.hk (byt_cons _ _ (by omega) byt_nil)) (0, 0), H1.out.1.below (box_below _ _), (Below.refl _ _).alloc (by rw [H1.out.2.1]; exact Nat.le_refl _) _, by simp [H1.out.2.1]⟩
  go_upto_region 2 with fail
  clear c0
  generalize w1.alloc (.cells #[.int .u8 N.k, .int .u8 0] 5) = w2 at H2 ⊢
  generalize w1.heap.size = g1 at H2 ⊢
  have c1 : w2.cell? ⟨S, 1, none⟩ = some (.int .u16 N.l) := H2.out.2.1.cell 1
  have b1 := HN.out.hl
  unfold U16 at b1
  have W1 : IntKind.u64.wrap N.l = N.l := by rw [IntKind.wrap_u64]; omega
  go_upto_region 3 with (first
    | (go_at_call 22; (try rw [W1]); refine Calls.mono (rput_n N.l 2 w2 b1.1 (by omega) (by omega) (by omega)) ?_; rintro e w3 ⟨g3, o3, c3, rfl, hB3, hb3⟩; have H3 : Box (Bytes w3 (some ⟨g1, 0, none⟩) 2 [N.k, 0] ∧ Bytes w3 (some ⟨g3, o3, none⟩) 2 (bytesOf N.l 2) ∧ Lies' w3 S N ∧ Below (S + 1) w1 w3 ∧ S + 1 ≤ w3.heap.size) := ⟨H2.out.1.below hb3, hB3, H2.out.2.1.below hb3, H2.out.2.2.1.trans (hb3.mono H2.out.2.2.2), Nat.le_trans H2.out.2.2.2 hb3.size⟩; clear hB3 hb3)
    | (at_builtin; refine wpList_appG rfl _ _ rfl (S + 1) 2 2 c3 [N.k, 0] (bytesOf N.l 2) ⟨g1, 0, none⟩ ⟨g3, o3, none⟩ w3 rfl rfl H3.out.1 H3.out.2.1 (by omega) (by omega) (Below.refl _ _) H3.out.2.2.2.2 ?_; intro v4 w4 h4; have H4 : Box (Pr N w1 w4 S v4 4 ([N.k, 0] ++ bytesOf N.l 2)) := ⟨⟨h4.out.1, H3.out.2.2.2.1.trans h4.out.2.1, h4.out.2.2, H3.out.2.2.1.on h4.out.2.1 (by omega)⟩⟩; clear h4 H3))
  clear c1 H2 W1 b1
  have c2 : w4.cell? ⟨S, 2, none⟩ = some (.int .u32 N.z) := H4.out.2.2.2.cell 2
  have b2 := HN.out.hz
  have W2 : IntKind.u64.wrap N.z = N.z := by rw [IntKind.wrap_u64]; omega
  go_upto_region 4 with (first
    | (go_at_call 22; (try rw [W2]); refine Calls.mono (rput_n N.z 4 w4 b2.1 (by omega) (by omega) (by omega)) ?_; rintro e w5 ⟨g5, o5, c5, rfl, hB5, hb5⟩; have H5 : Box (Pr N w1 w5 S v4 4 ([N.k, 0] ++ bytesOf N.l 2)) := ⟨H4.out.below hb5⟩)
    | (at_builtin; refine wpList_app rfl _ _ rfl (S + 1) 4 4 c5 _ ([N.k, 0] ++ bytesOf N.l 2) (bytesOf N.z 4) (some ⟨g5, o5, none⟩) w5 rfl rfl H5.out.1 hB5 (by omega) (Below.refl _ _) H5.out.2.2.1 ?_; intro v6 w6 h6; have H6 : Box (Pr N w1 w6 S v6 8 (nb0 N)) := ⟨H5.out.app h6⟩; clear h6 hB5 hb5 H5))
  clear c2 H4 W2 b2
  go_wp2
  go_loopw [3, 4] (fun v i wr => ∃ k : Nat, k ≤ 5 ∧ i = .int .i64 k ∧ Box (Pr N w1 wr S v (8 + k * 2) (nb0 N ++ rowsOf (ns N) 2 k))) (fun _ i _ => 5 - (intOf i).toNat)
  case atStart => exact ⟨0, by omega, rfl, ⟨by simpa [rowsOf] using H6.out⟩⟩
  case round =>
    obtain ⟨k, hk, rfl, HP⟩ := hrel
    clear H6
    by_cases hlt : k < 5
    · have hc : wr.cell? ⟨S, 3 + k, none⟩ = some (.int .u16 ((ns N).getD k 0)) := HP.out.2.2.2.num k hlt
      have hu := HN.out.hn k
      have HR : Box (rowsOf (ns N) 2 (k + 1) = rowsOf (ns N) 2 k ++ bytesOf ((ns N).getD k 0) 2) := ⟨rfl⟩
      have HL : Box (8 + k * 2 + 2 ≤ 140737488355328) := ⟨by omega⟩
      generalize (ns N).getD k 0 = z at hc hu HR
      unfold U16 at hu
      have W1 : IntKind.u64.wrap z = z := by rw [IntKind.wrap_u64]; omega
      go_wp2_with (first
        | (go_at_call 22; (try rw [W1]); refine Calls.mono (rput_n z 2 _ hu.1 (by omega) (by omega) (by omega)) ?_; rintro e w5 ⟨g5, o5, c5, rfl, hB, hb⟩; have H5 : Box (Pr N w1 w5 S u3 (8 + k * 2) (nb0 N ++ rowsOf (ns N) 2 k) ∧ Bytes w5 (some ⟨g5, o5, none⟩) 2 (bytesOf z 2)) := ⟨HP.out.below hb, hB⟩; clear hB hb hc)
        | (at_builtin; refine wpList_app rfl _ _ rfl (S + 1) (8 + k * 2) 2 c5 _ (nb0 N ++ rowsOf (ns N) 2 k) (bytesOf z 2) _ w5 rfl rfl H5.out.1.1 H5.out.2 HL.out (Below.refl _ _) H5.out.1.2.2.1 ?_; intro v6 w6 h6; have H6 : Box (Pr N w1 w6 S v6 (8 + k * 2 + 2) (nb0 N ++ rowsOf (ns N) 2 k ++ bytesOf z 2)) := ⟨H5.out.1.app h6⟩; clear h6 H5))
      go_roundw
      case rel => exact ⟨k + 1, by omega, by go_num, ⟨by rw [HR.out, ← List.append_assoc, show 8 + (k + 1) * 2 = 8 + k * 2 + 2 by omega]; exact H6.out⟩⟩
      case measure => simp [intOf]; omega
    · obtain rfl : k = 5 := by omega
      have HE : Box (nb0 N ++ rowsOf (ns N) 2 5 ++ zro 14 = nb N) := ⟨(nb_eq N).symm⟩
      have HA : Box (Byt (nb0 N ++ rowsOf (ns N) 2 5)) := ⟨byt_app _ _ (byt_nb0 HN.out) (rowsOf_bd _ 2 5)⟩
      have HP : Box (Pr N w1 wr S u3 18 (nb0 N ++ rowsOf (ns N) 2 5)) := ⟨HP.out⟩
      generalize nb0 N ++ rowsOf (ns N) 2 5 = A at HP HE HA
      clear HN
      go_wp2
      rw [show ((5 : Nat) : Int) = (5 : Int) from rfl]
      go_loopw [3] (fun v wr => ∃ k : Nat, k ≤ 14 ∧ Box (Pr N w1 wr S v (18 + k) (A ++ zro k))) (fun v _ => 32 - vlen v)
      case atStart => exact ⟨0, by omega, ⟨by simpa [zro] using HP.out⟩⟩
      case round =>
        obtain ⟨k, hk, HQ⟩ := hrel
        clear HP
        obtain ⟨a, cap, rfl⟩ := own_form HQ.out.1
        by_cases hlt : k < 14
        · have g5 : 18 + (k : Int) < 32 := by omega
          have H7 : Box (Pr N w1 (wr.alloc (.cells #[.int .u8 0] 5)) S (.slice a (18 + k) cap) (18 + k) (A ++ zro k) ∧ Bytes (wr.alloc (.cells #[.int .u8 0] 5)) (some ⟨wr.heap.size, 0, none⟩) 1 [0]) := ⟨HQ.out.below (box_below _ _), byt_lits wr [0] byt_zero (0, 0)⟩
          go_wp2_with (at_builtin; refine wpList_app rfl _ _ rfl (S + 1) (18 + k) 1 1 _ (A ++ zro k) [0] (some ⟨wr.heap.size, 0, none⟩) (wr.alloc (.cells #[.int .u8 0] 5)) rfl rfl H7.out.1.1 H7.out.2 (by omega) (Below.refl _ _) H7.out.1.2.2.1 ?_; intro v8 w8 h8; obtain ⟨H8, hv8⟩ := zstep H7.out.1 h8; clear h8 H7)
          go_roundw
          case rel => exact ⟨k + 1, by omega, H8⟩
          case measure => show 32 - vlen v8 < 32 - (18 + k); omega
        · have g5 : ¬ 18 + (k : Int) < 32 := by omega
          have HK : Box (k = 14) := ⟨by omega⟩
          have H9 : Box (Bytes wr a (18 + k) (A ++ zro k) ∧ Below w.heap.size w wr) := ⟨own_bytes HQ.out.1 (byt_zro A k HA.out), by rw [HS.out]; exact H1.out.2.2.trans (HQ.out.2.1.mono (by omega))⟩
          go_wp2_with (refine wpList_run rfl _ _ (exec_conv (.tmp 38) rfl rfl H9.out.1) ?_)
          go_ret
          exact ⟨by rw [← HE.out, ← HK.out]; rfl, H9.out.2⟩

theorem infoR : (Try.prog.info? 35).map (·.size) = some 8 := by kernel_rfl
theorem zeroR : (Try.prog.info? 35).map (·.zero) = some (some (.agg (nc zn))) := by kernel_rfl
theorem built_5 (a b c s d : Int) : Try.prog.built 33 [(0, .int .u16 a), (1, .int .u16 b), (2, .int .u16 c), (3, .int .u16 s), (4, .int .u16 d)] = some #[.int .u16 a, .int .u16 b, .int .u16 c, .int .u16 s, .int .u16 d] := by kernel_rfl
theorem built_R (k l z a b c s d : Int) : Try.prog.built 35 [(0, .int .u8 k), (1, .int .u16 l), (2, .int .u32 z), (3, .agg #[.int .u16 a, .int .u16 b, .int .u16 c, .int .u16 s, .int .u16 d])] = some (nc ⟨k, l, z, a, b, c, s, d⟩) := by kernel_rfl
theorem results_R2 {fn : Func} {t u : Tmp} (h : fn.results = #[.cell t 35, .tmp u]) (tmps : Array Value) (w : World) (S : Nat) (N : Nd) (ht : tmps.getD t undef = .pointer (some ⟨S, 0, none⟩)) (hg : Lies' w S N) :
    (results fn tmps).run Try.prog w = .ok (.tuple #[.agg (nc N), tmps.getD u undef]) w := by
  have hl := run_loadVar_row (P := Try.prog) w S _ 35 _ _ _ hg Try.underlying35 rfl infoR
  rw [results_cell_tmp h, ht]
  simp [asAddr, hl]
theorem results_R1 {fn : Func} {t : Tmp} (h : fn.results = #[.cell t 35]) (tmps : Array Value) (w : World) (S : Nat) (N : Nd) (ht : tmps.getD t undef = .pointer (some ⟨S, 0, none⟩)) (hg : Lies' w S N) :
    (results fn tmps).run Try.prog w = .ok (.agg (nc N)) w :=
  results_cell h tmps w S (nc N).toList _ ht (range_arr hg _ (fun j v hv => by rw [Nat.zero_add, ← Array.getElem?_toList]; exact hv)) Try.underlying35 rfl infoR
theorem wpList_stR {ops : Array Oper} {rest : List Oper} {o : Oper} {act : Act} {w : World} {Q : Exit → Act → World → Prop} (hgd : o.guard = none) (x y : Operand) (ho : o.op = .store 35 x y) (S : Nat) (N M : Nd) (hx : act.eval x = .pointer (some ⟨S, 0, none⟩)) (hy : act.eval y = .agg (nc N))
    (hg : Lies' w S M) (h : wpList Try.prog ops Q rest (act.put o.dst undef) (w.setRow S (nc N))) : wpList Try.prog ops Q (o :: rest) act w :=
  wpList_store_row hgd 35 x y ho S _ hx hy 35 _ hg infoR rfl (one_nc N) h
theorem lies_stR {w : World} {S : Nat} {M : Nd} (N : Nd) (h : Lies' w S M) : Lies' (w.setRow S (nc N)) S N := setRow_heap _ _ _ _ _ _ h
theorem wpList_newR {ops : Array Oper} {rest : List Oper} {o : Oper} {act : Act} {v : World} {Q : Exit → Act → World → Prop} (w : World) (N : Nd) (hgd : o.guard = none) (x y : Operand) (ho : o.op = .store 35 x y)
    (hx : act.eval x = .pointer (some ⟨w.heap.size, 0, none⟩)) (hy : act.eval y = .agg (nc N)) (hv : v = w.alloc (.cells (nc zn) 35))
    (h : ∀ z, Lies' z w.heap.size N → Below w.heap.size w z → wpList Try.prog ops Q rest (act.put o.dst undef) z) : wpList Try.prog ops Q (o :: rest) act v :=
  wpList_newRow w (nc zn) (nc N) infoR rfl (one_nc N) hgd x y ho hx hy hv h
theorem exec_ldR {o : Oper} {ρ : Operand → Value} {w' : World} (x : Operand) (ho : o.op = .load 35 x) (S : Nat) (N : Nd) (hx : ρ x = .pointer (some ⟨S, 0, none⟩)) (hB : Lies' w' S N) : (execOp ρ o).run Try.prog w' = .ok (.value (.agg (nc N))) w' := by
  unfold execOp
  simp only [ho, hx, Instr.loadAt, Instr.sureAddr, Sem.run_bind, Sem.run_pure, Result.andThen_ok, run_loadVar_row w' S 35 35 (nc N) (0, 0) _ hB Try.underlying35 rfl infoR]

set_option maxHeartbeats 1000000 in
theorem model_any (N : Nd) (w : World) : Calls Try.prog 13 #[.agg (nc N)] w fun e w' => e = .returned (.agg (nc N)) ∧ Below w.heap.size w w' := by
  have HB : Box (Below w.heap.size w ((w.alloc (.cells (nc N) 26)).alloc (.cells (nc zn) 35))) := ⟨below_to (box_below _ _) (box_below _ _)⟩
  have HL : Lies ((w.alloc (.cells (nc N) 26)).alloc (.cells (nc zn) 35)) w.heap.size N := al_old (al_at rfl)
  have HR : Box (Lies' ((w.alloc (.cells (nc N) 26)).alloc (.cells (nc zn) 35)) (w.heap.size + 1) zn) := ⟨al_at (by simp)⟩
  have k0 := HL.cell 0
  have k1 := HL.cell 1
  have k2 := HL.cell 2
  have k3 := HL.cell 3
  have k4 := HL.cell 4
  have k5 := HL.cell 5
  have k6 := HL.cell 6
  have k7 := HL.cell 7
  clear HL
  obtain ⟨k, l, z, a, b, c, s, d⟩ := N
  simp only [nc, List.getElem?_toArray, List.getElem?_cons_zero, List.getElem?_cons_succ] at k0 k1 k2 k3 k4 k5 k6 k7
  go_enter Try.func13, Try.ntmps13
  go_upto_region 1 with (refine wpList_run rfl _ _ (exec_alloc 35 rfl _ zeroR) ?_)
  change Code.wp _ _ _ _ ((w.alloc (.cells (nc ⟨k, l, z, a, b, c, s, d⟩) 26)).alloc (.cells (nc zn) 35))
  have hs : (w.alloc (.cells (nc ⟨k, l, z, a, b, c, s, d⟩) 26)).heap.size = w.heap.size + 1 := by simp
  (try rw [hs])
  simp only [nc] at HB k0 k1 k2 k3 k4 k5 k6 k7 HR ⊢
  generalize (w.alloc (.cells #[.int .u8 k, .int .u16 l, .int .u32 z, .int .u16 a, .int .u16 b, .int .u16 c, .int .u16 s, .int .u16 d] 26)).alloc _ = x at HB k0 k1 k2 k3 k4 k5 k6 k7 HR ⊢
  clear hs
  go_wp2_with (first
    | (refine wpList_run rfl _ _ (exec_built 33 [(0, .tmp 11), (1, .tmp 14), (2, .tmp 17), (3, .tmp 19), (4, .tmp 21)] rfl [(0, .int .u16 a), (1, .int .u16 b), (2, .int .u16 c), (3, .int .u16 s), (4, .int .u16 d)] rfl _ (built_5 _ _ _ _ _)) ?_)
    | (refine wpList_run rfl _ _ (exec_built 35 [(0, .tmp 4), (1, .tmp 6), (2, .tmp 8), (3, .tmp 22)] rfl [(0, .int .u8 k), (1, .int .u16 l), (2, .int .u32 z), (3, .agg #[.int .u16 a, .int .u16 b, .int .u16 c, .int .u16 s, .int .u16 d])] rfl _ (built_R _ _ _ _ _ _ _ _)) ?_)
    | (refine wpList_stR rfl _ _ rfl (w.heap.size + 1) ⟨k, l, z, a, b, c, s, d⟩ zn rfl rfl HR.out ?_))
  (try simp only [Exit.inBlock, Exit.then])
  refine bodyPost_ret (results_R1 rfl _ _ (w.heap.size + 1) _ rfl (lies_stR _ HR.out)) rfl ?_
  exact ⟨rfl, ⟨HB.out.os, HB.out.tape, HB.out.output, by simpa using HB.out.size, fun k hk => by rw [setRow_other _ _ k _ (by omega)]; exact HB.out.block k hk⟩⟩
end Go.Proofs.Ytpdggopkalbbeaa
