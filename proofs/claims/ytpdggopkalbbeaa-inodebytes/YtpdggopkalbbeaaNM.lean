/-
  Parts of an inode's bytes and what they say of its numbers; Go's == on three numbers; a great drawn region of reads, asked ten operations at a time.
-/
import Derived.Test.YtpdggopkalbbeaaNK
import Derived.BigQuiet
namespace Go.Proofs.Ytpdggopkalbbeaa
set_option linter.unusedVariables false
open Go.RowKit Plain

theorem bytes_drewN' {w : World} {a : Option Addr} {len : Nat} {L : List Int} (h : Bytes w a len L) (n : Nat) : Bytes (w.drewN n) a len L := h.below (below_drewN (Below.refl _ _) n)
theorem quiet_val {P : Program} {ops : Array Oper} {C : World → Prop} {Q : Act → Prop} {a : Act} {o : Oper} {rest : List Oper} (v : Value) (hv : ∀ x, C x → (execOp a.eval o).run P x = .ok (.value v) x) (hw : Region.wanted o (yielded ops a.tmps) = true) (h : wpQuiet P ops C Q rest (a.put o.dst v)) : wpQuiet P ops C Q (o :: rest) a :=
  wpQuiet_step fun K hK => by
    rw [if_pos hw]
    exact ⟨v, fun x hx => by unfold Oper.quietAt; rw [hv x hx]; exact ⟨rfl, rfl⟩, hK _ h⟩
theorem mid_app (X Y Z : List Int) (lo n : Nat) (hX : X.length = lo) (hY : Y.length = n) : ((X ++ (Y ++ Z)).drop lo).take n = Y := by
  rw [List.drop_append_of_le_length (by omega), List.drop_of_length_le (by omega), List.nil_append, List.take_append_of_le_length (by omega), List.take_of_length_le (by omega)]
/-- The first k of n are listed. -/
def lst (n k : Nat) : Array Bool := (List.replicate k true ++ List.replicate (n - k) false).toArray
theorem lst_zero (n : Nat) : lst n 0 = Array.replicate n false := by
  apply Array.toList_inj.1
  simp [lst]
theorem lst_set (n k : Nat) (h : k < n) : (lst n k).setIfInBounds k true = lst n (k + 1) := by
  apply Array.toList_inj.1
  obtain ⟨m, hm⟩ : ∃ m, n - k = m + 1 := ⟨n - k - 1, by omega⟩
  have hm' : n - (k + 1) = m := by omega
  simp only [lst, hm, hm', Array.toList_setIfInBounds, List.toList_toArray]
  rw [List.set_append_right _ _ (by simp), List.length_replicate, Nat.sub_self, List.replicate_succ, List.set_cons_zero, List.replicate_succ']
  simp
/-- Operation k may come next, behind the first k, and may be taken first. -/
def lexAt (ops : Array Oper) (n k : Nat) : Bool := decide (n ≤ k) || ((Region.ready .any ops (lst n k)).contains k && Region.free .any ops (lst n k) k)
def lexTen (ops : Array Oper) (n c : Nat) : Bool := (List.range 10).all fun i => lexAt ops n (10 * c + i)
theorem lex_from (ops : Array Oper) (n : Nat) (h : ∀ k, k < n → lexAt ops n k = true) (he : (Region.ready .any ops (lst n n)).isEmpty = true) : ∀ fuel k, k + fuel = n → Region.lexFrom .any ops fuel k (lst n k) = true
  | 0, k, hk => by
    obtain rfl : k = n := by omega
    exact he
  | fuel + 1, k, hk => by
    have h1 := h k (by omega)
    have hd : decide (n ≤ k) = false := by simp; omega
    rw [lexAt, hd, Bool.false_or] at h1
    rw [Region.lexFrom, h1, lst_set n k (by omega), lex_from ops n h he fuel (k + 1) (by omega)]
    rfl
theorem lex_ten {ops : Array Oper} {n c : Nat} (h : lexTen ops n c = true) (k : Nat) (h1 : 10 * c ≤ k) (h2 : k < 10 * c + 10) : lexAt ops n k = true := by
  have := List.all_eq_true.1 h (k - 10 * c) (by simp; omega)
  rwa [show 10 * c + (k - 10 * c) = k by omega] at this
theorem lex_all (ops : Array Oper) (n : Nat) (hn : ops.size = n) (h100 : n ≤ 100) (hs : Region.noSelect ops = true) (he : (Region.ready .any ops (lst n n)).isEmpty = true)
    (c0 : lexTen ops n 0 = true) (c1 : lexTen ops n 1 = true) (c2 : lexTen ops n 2 = true) (c3 : lexTen ops n 3 = true) (c4 : lexTen ops n 4 = true) (c5 : lexTen ops n 5 = true) (c6 : lexTen ops n 6 = true) (c7 : lexTen ops n 7 = true) (c8 : lexTen ops n 8 = true) (c9 : lexTen ops n 9 = true) : Region.lexB .any ops = true := by
  have h : ∀ k, k < n → lexAt ops n k = true := by
    intro k hk
    by_cases a0 : k < 10
    · exact lex_ten c0 k (by omega) (by omega)
    by_cases a1 : k < 20
    · exact lex_ten c1 k (by omega) (by omega)
    by_cases a2 : k < 30
    · exact lex_ten c2 k (by omega) (by omega)
    by_cases a3 : k < 40
    · exact lex_ten c3 k (by omega) (by omega)
    by_cases a4 : k < 50
    · exact lex_ten c4 k (by omega) (by omega)
    by_cases a5 : k < 60
    · exact lex_ten c5 k (by omega) (by omega)
    by_cases a6 : k < 70
    · exact lex_ten c6 k (by omega) (by omega)
    by_cases a7 : k < 80
    · exact lex_ten c7 k (by omega) (by omega)
    by_cases a8 : k < 90
    · exact lex_ten c8 k (by omega) (by omega)
    · exact lex_ten c9 k (by omega) (by omega)
  rw [Region.lexB, hs, hn, ← lst_zero, lex_from ops n h he n 0 (by omega)]
  rfl
theorem all_eq (n : Nat) (X Y : List Int) (hX : X.length = n) (hY : Y.length = n) : ((List.range n).all fun i => X.getD i 0 == Y.getD i 0) = decide (X = Y) := by
  rw [Bool.eq_iff_iff, List.all_eq_true, decide_eq_true_iff]
  constructor
  · intro h
    apply List.ext_getElem (by omega)
    intro i h1 h2
    have := h i (by simp; omega)
    simpa [List.getD, h1, h2] using this
  · rintro rfl i _
    simp
theorem sz27 (x : World) : (sizeOf (Try.prog.elem 27)).run Try.prog x = .ok 1 x := by kernel_rfl
theorem un27 : Try.prog.underlying 27 = some (.slice (Try.prog.elem 27)) := by kernel_rfl
theorem slice_lh (b lo hi : Nat) (h1 : lo < hi) (h2 : hi ≤ 32) (x : World) : (Instr.sliceAt 27 (.slice (some ⟨b, 0, none⟩) 32 32) (some (.int .i64 (lo : Int))) (some (.int .i64 (hi : Int))) none).run Try.prog x = .ok (.slice (some ⟨b, lo, none⟩) (hi - lo) (32 - lo)) x := by
  rw [run_sliceAt_slice (P := Try.prog) x 27 _ _ _ _ un27, run_slice_lh (P := Try.prog) x 27 _ 32 32 un27 .i64 .i64 (lo : Int) (hi : Int) (by omega) (by omega) (by omega), sz27, Result.andThen_ok, sliced]
  simp [show ¬ 32 = lo by omega, Addr.add_mid]
theorem bytes_sub {w : World} {b : Nat} {L : List Int} (h : Bytes w (some ⟨b, 0, none⟩) 32 L) (lo n : Nat) (hn : lo + n ≤ 32) : Bytes w (some ⟨b, lo, none⟩) n ((L.drop lo).take n) := by
  refine ⟨by simp [h.1]; omega, byt_take _ _ (byt_drop _ _ h.2.1), fun hp => ?_⟩
  obtain ⟨b', o', he, hlt, hc⟩ := h.2.2 (by omega)
  simp only [Option.some.injEq, Addr.mk.injEq, and_true] at he
  obtain ⟨rfl, rfl⟩ := he
  refine ⟨b, lo, rfl, hlt, fun i hi => ?_⟩
  have := hc (lo + i) (by omega)
  rw [Nat.zero_add] at this
  rw [this]
  simp [List.getD, hi]
/-- The three blocks, and their bytes. -/
def three (N : Nd) : List Int := [N.a, N.b, N.c]
def th (N : Nd) : List Int := rowsOf (three N) 2 3
theorem cutL {w : World} {b : Nat} {N : Nd} (h : Bytes w (some ⟨b, 0, none⟩) 32 (nb N)) : Bytes w (some ⟨b, 2, none⟩) 2 (bytesOf N.l 2) := by
  have := bytes_sub h 2 2 (by omega)
  have e : nb N = ([N.k] ++ [0]) ++ (bytesOf N.l 2 ++ (bytesOf N.z 4 ++ ((bytesOf N.a 2 ++ bytesOf N.b 2 ++ bytesOf N.c 2) ++ (bytesOf N.s 2 ++ (bytesOf N.d 2 ++ List.replicate 14 0))))) := by rw [nb_parts]; simp only [List.append_assoc]
  rwa [e, mid_app _ _ _ 2 2 rfl (length_bytesOf _ _)] at this
theorem cutZ {w : World} {b : Nat} {N : Nd} (h : Bytes w (some ⟨b, 0, none⟩) 32 (nb N)) : Bytes w (some ⟨b, 4, none⟩) 4 (bytesOf N.z 4) := by
  have := bytes_sub h 4 4 (by omega)
  have e : nb N = ([N.k] ++ [0] ++ bytesOf N.l 2) ++ (bytesOf N.z 4 ++ ((bytesOf N.a 2 ++ bytesOf N.b 2 ++ bytesOf N.c 2) ++ (bytesOf N.s 2 ++ (bytesOf N.d 2 ++ List.replicate 14 0)))) := by rw [nb_parts]; simp only [List.append_assoc]
  rwa [e, mid_app _ _ _ 4 4 (by simp [length_bytesOf]) (length_bytesOf _ _)] at this
theorem cutT {w : World} {b : Nat} {N : Nd} (h : Bytes w (some ⟨b, 0, none⟩) 32 (nb N)) : Bytes w (some ⟨b, 8, none⟩) 6 (th N) := by
  have := bytes_sub h 8 6 (by omega)
  have e : nb N = ([N.k] ++ [0] ++ bytesOf N.l 2 ++ bytesOf N.z 4) ++ (th N ++ (bytesOf N.s 2 ++ (bytesOf N.d 2 ++ List.replicate 14 0))) := by rw [nb_parts]; simp [th, three, rowsOf]
  rwa [e, mid_app _ _ _ 8 6 (by simp [length_bytesOf]) (length_rowsOf _ _ _)] at this
theorem cutS {w : World} {b : Nat} {N : Nd} (h : Bytes w (some ⟨b, 0, none⟩) 32 (nb N)) : Bytes w (some ⟨b, 14, none⟩) 2 (bytesOf N.s 2) := by
  have := bytes_sub h 14 2 (by omega)
  have e : nb N = ([N.k] ++ [0] ++ bytesOf N.l 2 ++ bytesOf N.z 4 ++ (bytesOf N.a 2 ++ bytesOf N.b 2 ++ bytesOf N.c 2)) ++ (bytesOf N.s 2 ++ (bytesOf N.d 2 ++ List.replicate 14 0)) := by rw [nb_parts]; simp only [List.append_assoc]
  rwa [e, mid_app _ _ _ 14 2 (by simp [length_bytesOf]) (length_bytesOf _ _)] at this
theorem cutD {w : World} {b : Nat} {N : Nd} (h : Bytes w (some ⟨b, 0, none⟩) 32 (nb N)) : Bytes w (some ⟨b, 16, none⟩) 2 (bytesOf N.d 2) := by
  have := bytes_sub h 16 2 (by omega)
  have e : nb N = ([N.k] ++ [0] ++ bytesOf N.l 2 ++ bytesOf N.z 4 ++ (bytesOf N.a 2 ++ bytesOf N.b 2 ++ bytesOf N.c 2) ++ bytesOf N.s 2) ++ (bytesOf N.d 2 ++ List.replicate 14 0) := by rw [nb_parts]; simp only [List.append_assoc]
  rwa [e, mid_app _ _ _ 16 2 (by simp [length_bytesOf]) (length_bytesOf _ _)] at this
theorem str_num (n : Nat) (x y : Int) (hx : 0 ≤ x ∧ x < 2 ^ (8 * n)) (hy : 0 ≤ y ∧ y < 2 ^ (8 * n)) : ((strOfNums (bytesOf x n)).toList == (strOfNums (bytesOf y n)).toList) = (x == y) := by
  rw [str_beq _ _ (bytesOf_bd x n) (bytesOf_bd y n), Bool.eq_iff_iff, decide_eq_true_iff, beq_iff_eq]
  constructor
  · intro h
    have e : x % 2 ^ (8 * n) = y % 2 ^ (8 * n) := by rw [← num_bytesOf x n n (Nat.le_refl _), ← num_bytesOf y n n (Nat.le_refl _), h]
    rwa [Int.emod_eq_of_lt hx.1 hx.2, Int.emod_eq_of_lt hy.1 hy.2] at e
  · rintro rfl; rfl
theorem str_three (A B : Nd) (hA : OkN A) (hB : OkN B) : ((strOfNums (th A)).toList == (strOfNums (th B)).toList) = decide (three A = three B) := by
  rw [str_beq (th A) (th B) (rowsOf_bd _ _ _) (rowsOf_bd _ _ _), Bool.eq_iff_iff, decide_eq_true_iff, decide_eq_true_iff]
  constructor
  · intro h
    have k : ∀ i, i < 3 → (three A).getD i 0 % 2 ^ (8 * 2) = (three B).getD i 0 % 2 ^ (8 * 2) := fun i hi => by
      rw [← num_rowsOf (three A) 2 i 3 hi, ← num_rowsOf (three B) 2 i 3 hi]
      have : rowsOf (three A) 2 3 = rowsOf (three B) 2 3 := h
      rw [this]
    have k0 := k 0 (by omega)
    have k1 := k 1 (by omega)
    have k2 := k 2 (by omega)
    have a0 := hA.hn 0
    have a1 := hA.hn 1
    have a2 := hA.hn 2
    have b0 := hB.hn 0
    have b1 := hB.hn 1
    have b2 := hB.hn 2
    simp only [ns, three, List.getD_cons_zero, List.getD_cons_succ, U16] at k0 k1 k2 a0 a1 a2 b0 b1 b2
    have e0 : A.a = B.a := by omega
    have e1 : A.b = B.b := by omega
    have e2 : A.c = B.c := by omega
    simp [three, e0, e1, e2]
  · intro h
    unfold th
    rw [h]
def u16s (L : List Int) : Array Value := (L.map (Value.int .u16)).toArray
theorem part16 (X : List Int) (i : Nat) (h : i < X.length) (w : World) : (part 22 (u16s X) (i * Try.prog.cellsOf 22)).run Try.prog w = .ok (.int .u16 (X.getD i 0)) w := by
  have hc : Try.prog.cellsOf 22 = 1 := by kernel_rfl
  have hagg : (isAgg 22).run Try.prog w = .ok false w := by kernel_rfl
  have hv : (u16s X)[i]? = some (.int .u16 (X.getD i 0)) := by simp [u16s, h]
  rw [hc, Nat.mul_one]
  simp [part, Sem.run_bind, hagg, hv]
theorem eq_items (d n : Nat) (X Y : List Int) (w : World) (hX : X.length = n) (hY : Y.length = n) : ∀ is : List Nat, (∀ i ∈ is, i < n) → (Op.eqItems (d + 1) 22 (Try.prog.cellsOf 22) (u16s X) (u16s Y) is).run Try.prog w = .ok (is.all fun i => X.getD i 0 == Y.getD i 0) w
  | [], _ => by simp [Op.eqItems]
  | i :: is, h => by
    have ih := eq_items d n X Y w hX hY is (fun j hj => h j (List.mem_cons_of_mem _ hj))
    have hi := h i List.mem_cons_self
    have e := run_equalIn_int (P := Try.prog) w d 22 .u16 .u16 (X.getD i 0) (Y.getD i 0) Try.underlying22
    simp only [Op.eqItems, Sem.run_bind, part16 X i (by omega), part16 Y i (by omega), Result.andThen_ok, e, List.all_cons]
    cases hq : (X.getD i 0 == Y.getD i 0)
    · simp
    · simpa using ih
theorem info16 : (Try.prog.info? 22).map (fun i => (i.zero, i.size, i.bytes)) = some (some (.int .u16 0), 1, 2) := by kernel_rfl
theorem eq_threeIn (d : Nat) (X Y : List Int) (hX : X.length = 3) (hY : Y.length = 3) (w : World) : (Op.equalIn (d + 1 + 1) 24 (.agg (u16s X)) (.agg (u16s Y))).run Try.prog w = .ok (decide (X = Y)) w := by
  obtain ⟨i0, hi, _⟩ := info_parts info16
  rw [run_equalIn_array w (d + 1) (u16s X) (u16s Y) Try.underlying24 hi, eq_items d 3 X Y w hX hY _ (by simp), all_eq 3 X Y hX hY]
theorem guard3 : Try.prog.eqGuardType Try.prog.depth 24 = false := by kernel_rfl
theorem exec_eq3 {o : Oper} {ρ : Operand → Value} {w' : World} (x y : Operand) (ty : TypeId) (ho : o.op = .binOp .eql 24 x y ty) (A B : List Int) (hA : A.length = 3) (hB : B.length = 3) (hx : ρ x = .agg (u16s A)) (hy : ρ y = .agg (u16s B)) :
    (execOp ρ o).run Try.prog w' = .ok (.value (.bool (decide (A = B)))) w' := by
  have h : (binOp .eql 24 (.agg (u16s A)) (.agg (u16s B))).run Try.prog w' = .ok (.bool (decide (A = B))) w' := by
    rw [run_eql_struct, eq_threeIn 9998 A B hA hB]
    rfl
  unfold execOp
  simp only [ho, hx, hy, Sem.run_bind, run_eqGuard_agg w' .eql 24 x y _ _ guard3, h, Result.andThen_ok]
  rfl
theorem info3 : (Try.prog.info? 24).map (·.size) = some 3 := by kernel_rfl
theorem exec_three {o : Oper} {ρ : Operand → Value} {w' : World} (x : Operand) (ho : o.op = .load 24 x) (S : Nat) (N : Nd) (hx : ρ x = .pointer (some ⟨S, 3, none⟩)) (h : Lies w' S N) :
    (execOp ρ o).run Try.prog w' = .ok (.value (.agg (u16s (three N)))) w' :=
  exec_load_mid 24 _ x ho Try.underlying24 rfl S 3 hx ((three N).map (Value.int .u16)) info3 (range_arr h _ (fun j v hv => by
    match j, hv with
    | 0, hv => exact hv
    | 1, hv => exact hv
    | 2, hv => exact hv))
theorem lies_drewN {w : World} {S : Nat} {N : Nd} (h : Lies w S N) (n : Nat) : Lies (w.drewN n) S N := h.below (below_drewN (Below.refl _ _) n)
end Go.Proofs.Ytpdggopkalbbeaa
