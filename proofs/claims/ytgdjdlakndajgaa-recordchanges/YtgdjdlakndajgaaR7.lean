/-
  The reference's Put and Get of records; the law's recordOf; == on the reference's records.
-/
import Derived.Test.YtgdjdlakndajgaaR6
import Derived.Laws.IdiomStrings
namespace Go.Proofs.Ytgdjdlakndajgaa
set_option linter.unusedVariables false
open Go.RowKit Plain

theorem str_data (L : List Int) : (strOfNums L).data = (L.map fun n => UInt8.ofNat n.toNat).toArray := rfl
theorem u8_back (z : Int) (h : 0 ≤ z ∧ z ≤ 255) : ((UInt8.ofNat z.toNat).toNat : Int) = z := by simp; omega
theorem str_size (L : List Int) : (strOfNums L).size = L.length := by
  show (strOfNums L).data.size = L.length
  simp [strOfNums]
/-- The bytes of a string, laid into new memory. -/
theorem conv_str (w : World) (L : List Int) (hL : Byt L) : ∃ c w', (convert 9 23 (.string (strOfNums L))).run Try.prog w = .ok (.slice (some ⟨w.heap.size, 0, none⟩) L.length c) w' ∧ Bytes w' (some ⟨w.heap.size, 0, none⟩) L.length L ∧ Below w.heap.size w w' := by
  have h := run_bytes_of_string (P := Try.prog) w 9 23 5 (strOfNums L) Try.underlying9 Try.underlying23 Try.underlying5
  rw [str_size] at h
  refine ⟨_, _, h, ⟨rfl, hL, fun hp => ⟨w.heap.size, 0, rfl, by simp, fun i hi => ?_⟩⟩, ((Below.refl _ _).drew).alloc (Nat.le_refl _) _⟩
  have ha : (w.drew.alloc (.cells (bytesRow (strOfNums L) (grownCap w L.length 0 5)) 5 ((bytesRow (strOfNums L) (grownCap w L.length 0 5)).size, (bytesRow (strOfNums L) (grownCap w L.length 0 5)).size + 1))).heap[w.heap.size]? = some (.cells (bytesRow (strOfNums L) (grownCap w L.length 0 5)) 5 ((bytesRow (strOfNums L) (grownCap w L.length 0 5)).size, (bytesRow (strOfNums L) (grownCap w L.length 0 5)).size + 1)) := al_at rfl
  rw [cell_of_row _ _ _ _ _ _ ha, Nat.zero_add]
  have hb := hL i
  have hg : L.getD i 0 = L[i] := by simp [List.getD, hi]
  rw [hg] at hb ⊢
  unfold bytesRow
  rw [Array.getElem?_append_left (by simp [str_data]; exact hi)]
  simp [str_data, hi]
  omega
/-- A byte of a string. -/
theorem index_str (L : List Int) (hL : Byt L) (i : Nat) (hi : i < L.length) (w : World) : (Instr.index 9 (.string (strOfNums L)) (.int .i64 (i : Int))).run Try.prog w = .ok (.int .u8 (L.getD i 0)) w := by
  rw [run_index_string w 9 _ .i64 (i : Int) Try.underlying9, dif_pos ⟨by omega, by rw [str_size]; omega⟩]
  have hb := hL i
  have hg : L.getD i 0 = L[i] := by simp [List.getD, hi]
  rw [hg] at hb ⊢
  have e : ((strOfNums L)[(i : Int).toNat]'(by rw [str_size]; omega)) = UInt8.ofNat (L[i]).toNat := by
    simp only [Int.toNat_natCast]
    show (strOfNums L).data[i]'_ = _
    simp [str_data]
  rw [e, u8_back _ hb]
theorem str_app (A B : List Int) : strOfNums A ++ strOfNums B = strOfNums (A ++ B) := by
  apply ByteArray.ext
  simp [strOfNums]
theorem str_drop (L : List Int) (lo : Nat) (h : lo ≤ L.length) (w : World) : (Instr.sliceAt 9 (.string (strOfNums L)) (some (.int .i64 (lo : Int))) none none).run Try.prog w = .ok (.string (strOfNums (L.drop lo))) w := by
  rw [run_sliceAt_string w 9 _ _ _ _ Try.underlying9, run_slice_string_l w 9 _ Try.underlying9 .i64 _ (by omega) (by rw [str_size]; omega)]
  have e : (strOfNums L).extract (lo : Int).toNat (strOfNums L).size = strOfNums (L.drop lo) := by
    rw [str_size]
    simp only [Int.toNat_natCast]
    have := ByteArray.extract_mk (L.map fun n => UInt8.ofNat n.toNat) lo L.length
    unfold strOfNums
    rw [this]
    simp only [ByteArray.mk.injEq, List.map_drop]
    rw [List.take_of_length_le (by simp)]
  rw [e]
theorem built_I (b : Int) (s : ByteArray) : Try.prog.built 37 [(0, .int .u64 b), (1, .string s)] = some #[.int .u64 b, .string s] := by kernel_rfl
theorem built_Rr (b : Int) (s : ByteArray) (x : Bool) : Try.prog.built 39 [(0, .agg #[.int .u64 b, .string s]), (1, .bool x)] = some #[.int .u64 b, .string s, .bool x] := by kernel_rfl
theorem zeroRr : (Try.prog.info? 39).map (·.zero) = some (some (.agg #[.int .u64 0, .string ByteArray.empty, .bool false])) := by kernel_rfl
theorem infoRr : (Try.prog.info? 39).map (·.size) = some 3 := by kernel_rfl
theorem infRr : (Try.prog.info? 39).map (fun i => (i.zero, i.size, i.bytes)) = some (some (.agg #[.int .u64 0, .string ByteArray.empty, .bool false]), 3, 32) := by kernel_rfl
theorem infoI : (Try.prog.info? 37).map (·.size) = some 2 := by kernel_rfl
theorem infI : (Try.prog.info? 37).map (fun i => (i.zero, i.size, i.bytes)) = some (some (.agg #[.int .u64 0, .string ByteArray.empty]), 2, 24) := by kernel_rfl
set_option maxHeartbeats 1000000 in
theorem recordOf_any (r : Rc) (w : World) (h : Bytes w r.m.ba r.m.bl r.m.bs) :
    Calls Try.prog 12 #[.agg (rcc r).toArray] w fun e w' => e = .returned (.agg (rrc (rpl r)).toArray) ∧ Below w.heap.size w w' := by
  obtain ⟨⟨blk, ba, bl, bc, bs⟩, last⟩ := r
  simp only at h
  unfold rcc
  simp only
  obtain ⟨S, hS⟩ : ∃ S, w.heap.size = S := ⟨_, rfl⟩
  obtain ⟨w1, hw1⟩ : ∃ w1, w.alloc (.cells #[.int .u64 blk, .slice ba bl bc, .bool last] 30) = w1 := ⟨_, rfl⟩
  obtain ⟨w2, hw2⟩ : ∃ w2, w1.alloc (.cells #[.int .u64 0, .string ByteArray.empty, .bool false] 39) = w2 := ⟨_, rfl⟩
  have hs1 : w1.heap.size = S + 1 := by rw [← hw1]; simp [hS]
  have hb1 : Below w.heap.size w w1 := by rw [← hw1]; exact (Below.refl _ _).alloc (Nat.le_refl _) _
  have hb2 : Below w.heap.size w w2 := by rw [← hw2]; exact hb1.alloc hb1.size _
  have r1 : w2.heap[S]? = some (.cells #[.int .u64 blk, .slice ba bl bc, .bool last] 30 (0, 0)) := by rw [← hw2]; exact al_old (by rw [← hw1]; exact al_at hS)
  have r2 : w2.heap[S + 1]? = some (.cells #[.int .u64 0, .string ByteArray.empty, .bool false] 39 (0, 0)) := by rw [← hw2]; exact al_at hs1
  have c0 : w2.cell? ⟨S, 0, none⟩ = some (.int .u64 blk) := by rw [cell_of_row _ _ _ _ _ _ r1]; rfl
  have c1 : w2.cell? ⟨S, 1, none⟩ = some (.slice ba bl bc) := by rw [cell_of_row _ _ _ _ _ _ r1]; rfl
  have c2 : w2.cell? ⟨S, 2, none⟩ = some (.bool last) := by rw [cell_of_row _ _ _ _ _ _ r1]; rfl
  have HBy : Box (Bytes w2 ba bl bs) := ⟨h.below hb2⟩
  have HR : Box (w2.heap[S + 1]? = some (.cells #[.int .u64 0, .string ByteArray.empty, .bool false] 39 (0, 0))) := ⟨r2⟩
  have HB : Box (Below w.heap.size w w2 ∧ w.heap.size = S) := ⟨hb2, hS⟩
  obtain ⟨s, HSs⟩ : ∃ s, Box (strOfNums bs = s) := ⟨_, ⟨rfl⟩⟩
  have HCv : Box (∀ o : Oper, ∀ a : Act, o.op = .convert 23 9 (.tmp 8) → a.eval (.tmp 8) = .slice ba bl bc → (execOp a.eval o).run Try.prog w2 = .ok (.value (.string s)) w2) := ⟨fun o a h1 h2 => by rw [← HSs.out]; exact exec_conv (.tmp 8) h1 h2 HBy.out⟩
  clear hb1 hb2 r1 r2 h
  go_enter Try.func12, Try.ntmps12
  go_upto_region 1 with (refine atAlloc _ ?_; refine wpList_run rfl _ _ (exec_alloc 39 rfl _ zeroRr) ?_)
  (try simp only [hs1, hw2, Act.put, List.setIfInBounds_toArray, List.set_cons_zero, List.set_cons_succ])
  (try simp only [hw2])
  clear hw1 hw2 hS hs1
  go_wp2_with (first
    | (refine atConv _ _ ?_; refine wpList_run rfl _ _ (HCv.out _ _ rfl rfl) ?_)
    | (refine atBuild 37 ?_; refine wpList_run rfl _ _ (exec_built 37 [(0, .tmp 5), (1, .tmp 9)] rfl [(0, .int .u64 blk), (1, .string s)] rfl _ (built_I _ _)) ?_)
    | (refine atBuild 39 ?_; refine wpList_run rfl _ _ (exec_built 39 [(0, .tmp 10), (1, .tmp 12)] rfl [(0, .agg #[.int .u64 blk, .string s]), (1, .bool last)] rfl _ (built_Rr _ _ _)) ?_)
    | (refine atStore _ ?_; refine wpList_store_row rfl 39 _ _ rfl (S + 1) #[.int .u64 blk, .string s, .bool last] rfl rfl 39 _ HR.out infoRr rfl (by simp [Value.oneCell']) ?_))
  refine bodyPost_ret (results_cell (t := 2) rfl _ _ (S + 1) [.int .u64 blk, .string s, .bool last] _ rfl (range_arr (setRow_heap _ _ _ _ _ _ HR.out) _ (fun j v hv => by simpa using hv)) Try.underlying39 rfl infoRr) rfl ?_
  exact ⟨by rw [← HSs.out]; rfl, below_setRow HB.out.1 (by have := HB.out.2; omega) _⟩
theorem equalIn_str (d : Nat) (s : ByteArray) (w : World) : (Op.equalIn (d + 1) 9 (.string s) (.string s)).run Try.prog w = .ok true w := by
  have hb : (s == s) = true := by first | exact beq_self_eq_true s | (cases s; show (_ == _) = true; exact beq_self_eq_true _) | (show (s.data == s.data) = true; exact beq_self_eq_true _)
  simp [Op.equalIn, run_underlying Try.underlying9, hb]
theorem equalIn_bool (d : Nat) (b : Bool) (w : World) : (Op.equalIn (d + 1) 4 (.bool b) (.bool b)).run Try.prog w = .ok true w := by
  simp [Op.equalIn, run_underlying Try.underlying4]
theorem fieldsI : (Try.prog.fieldsOf 37).toList.map (fun f => (f.name != "_", f.type, f.offset)) = [(true, 22, 0), (true, 9, 1)] := by kernel_rfl
theorem fieldsR : (Try.prog.fieldsOf 39).toList.map (fun f => (f.name != "_", f.type, f.offset)) = [(true, 37, 0), (true, 4, 2)] := by kernel_rfl
theorem equalIn_I (d : Nat) (b : Int) (s : ByteArray) (w : World) : (Op.equalIn (d + 2) 37 (.agg #[.int .u64 b, .string s]) (.agg #[.int .u64 b, .string s])).run Try.prog w = .ok true w := by
  rw [show d + 2 = (d + 1) + 1 from rfl, run_equalIn_struct w (d + 1) 37 _ _ (by kernel_rfl) (by kernel_rfl)]
  have hF := fieldsI
  generalize (Try.prog.fieldsOf 37).toList = fs at hF
  have hl : fs.length = 2 := by simpa using congrArg List.length hF
  match fs, hl, hF with
  | [f0, f1], _, hF =>
    simp only [List.map_cons, List.map_nil, List.cons.injEq, Prod.mk.injEq, and_true] at hF
    obtain ⟨⟨a0, b0, c0⟩, ⟨a1, b1, c1⟩⟩ := hF
    have i := run_equalIn_int (P := Try.prog) w d 22 .u64 .u64 b b Try.underlying22
    have i' : (Op.equalIn (d + 1) 22 (.int .u64 b) (.int .u64 b)).run Try.prog w = .ok true w := by rw [i]; simp
    exact eqF_step (d + 1) _ _ f0 _ _ _ a0 b0 c0 (.int .u64 b) (.int .u64 b) w (by kernel_rfl) (by kernel_rfl) true true i'
      (eqF_step (d + 1) _ _ f1 _ _ _ a1 b1 c1 (.string s) (.string s) w (by kernel_rfl) (by kernel_rfl) true true (equalIn_str d s w) (by simp [Op.eqFields]))
theorem equalIn_R (d : Nat) (b : Int) (s : ByteArray) (l : Bool) (w : World) : (Op.equalIn (d + 3) 39 (.agg #[.int .u64 b, .string s, .bool l]) (.agg #[.int .u64 b, .string s, .bool l])).run Try.prog w = .ok true w := by
  rw [show d + 3 = (d + 2) + 1 from rfl, run_equalIn_struct w (d + 2) 39 _ _ (by kernel_rfl) (by kernel_rfl)]
  have hF := fieldsR
  generalize (Try.prog.fieldsOf 39).toList = fs at hF
  have hl : fs.length = 2 := by simpa using congrArg List.length hF
  match fs, hl, hF with
  | [f0, f1], _, hF =>
    simp only [List.map_cons, List.map_nil, List.cons.injEq, Prod.mk.injEq, and_true] at hF
    obtain ⟨⟨a0, b0, c0⟩, ⟨a1, b1, c1⟩⟩ := hF
    exact eqF_step (d + 2) _ _ f0 _ _ _ a0 b0 c0 (.agg #[.int .u64 b, .string s]) (.agg #[.int .u64 b, .string s]) w (by kernel_rfl) (by kernel_rfl) true true (equalIn_I d b s w)
      (eqF_step (d + 2) _ _ f1 _ _ _ a1 b1 c1 (.bool l) (.bool l) w (by kernel_rfl) (by kernel_rfl) true true (equalIn_bool (d + 1) l w) (by simp [Op.eqFields]))
theorem guardI : Try.prog.eqGuardType Try.prog.depth 37 = false := by kernel_rfl
theorem guardR : Try.prog.eqGuardType Try.prog.depth 39 = false := by kernel_rfl
theorem exec_neI {o : Oper} {ρ : Operand → Value} {w' : World} (x y : Operand) (ty : TypeId) (ho : o.op = .binOp .neq 37 x y ty) (b : Int) (s : ByteArray) (hx : ρ x = .agg #[.int .u64 b, .string s]) (hy : ρ y = .agg #[.int .u64 b, .string s]) :
    (execOp ρ o).run Try.prog w' = .ok (.value (.bool false)) w' := by
  have e : (binOp .neq 37 (.agg #[.int .u64 b, .string s]) (.agg #[.int .u64 b, .string s])).run Try.prog w' = .ok (.bool false) w' := by
    rw [run_neq_struct, equalIn_I 9998]; rfl
  unfold execOp
  simp only [ho, hx, hy, Sem.run_bind, run_eqGuard_agg w' .neq 37 x y _ _ guardI, e, Result.andThen_ok]
  rfl
theorem exec_neR {o : Oper} {ρ : Operand → Value} {w' : World} (x y : Operand) (ty : TypeId) (ho : o.op = .binOp .neq 39 x y ty) (b : Int) (s : ByteArray) (l : Bool) (hx : ρ x = .agg #[.int .u64 b, .string s, .bool l]) (hy : ρ y = .agg #[.int .u64 b, .string s, .bool l]) :
    (execOp ρ o).run Try.prog w' = .ok (.value (.bool false)) w' := by
  have e : (binOp .neq 39 (.agg #[.int .u64 b, .string s, .bool l]) (.agg #[.int .u64 b, .string s, .bool l])).run Try.prog w' = .ok (.bool false) w' := by
    rw [run_neq_struct, equalIn_R 9997]; rfl
  unfold execOp
  simp only [ho, hx, hy, Sem.run_bind, run_eqGuard_agg w' .neq 39 x y _ _ guardR, e, Result.andThen_ok]
  rfl
end Go.Proofs.Ytgdjdlakndajgaa
