/-
  What Places and New of package vault leave.
-/
import Derived.Test.YtnicgmimhgbcfaaGreatDoorWM
namespace Go.Proofs.YtnicgmimhgbcfaaGreatDoor
set_option linter.unusedVariables false
set_option maxRecDepth 100000
open Go.RowKit Go.Shelf Plain Go.Proofs.YtnicgmimhgbcfaaGreatDoor.Shap.Plain
attribute [local go_sem] Oper.semAt_some

theorem exec_ltI {o : Oper} {ρ : Operand → Value} {w' : World} (x y : Operand) (ty : TypeId) (ho : o.op = .binOp .lss 3 x y ty) (a b : Int) (c : Bool) (hc : decide (a < b) = c) (hx : ρ x = .int .i64 a) (hy : ρ y = .int .i64 b) :
    (execOp ρ o).run Tryz.prog w' = .ok (.value (.bool c)) w' := by
  subst hc
  unfold execOp
  simp [ho, hx, hy, eqGuard, binOp, Op.intCmp]
theorem exec_eqUc {o : Oper} {ρ : Operand → Value} {w' : World} (x y : Operand) (ty : TypeId) (ho : o.op = .binOp .eql 24 x y ty) (a b : Int) (c : Bool) (hc : (a == b) = c) (hx : ρ x = .int .u64 a) (hy : ρ y = .int .u64 b) :
    (execOp ρ o).run Tryz.prog w' = .ok (.value (.bool c)) w' := by
  subst hc
  unfold execOp
  simp [ho, hx, hy, eqGuard, binOp, Op.intCmp]
theorem exec_gtU {o : Oper} {ρ : Operand → Value} {w' : World} (x y : Operand) (ty : TypeId) (ho : o.op = .binOp .gtr 24 x y ty) (a b : Int) (c : Bool) (hc : decide (b < a) = c) (hx : ρ x = .int .u64 a) (hy : ρ y = .int .u64 b) :
    (execOp ρ o).run Tryz.prog w' = .ok (.value (.bool c)) w' := by
  subst hc
  unfold execOp
  simp [ho, hx, hy, eqGuard, binOp, Op.intCmp]
/-- A vault's cells, of any parts. -/
def vq (p : Value) (K : List Int) (n : Int) (s : Value) (r : Rf) (x y : Int) : List Value := p :: (K.map (Value.int .u8) ++ (.int .u64 n :: s :: (rc r ++ [.int .u64 x, .int .u64 y])))
theorem vq_len (p : Value) (K : List Int) (n : Int) (s : Value) (r : Rf) (x y : Int) (hK : K.length = 32) (hr : OkR r) : (vq p K n s r x y).length = 70 := by simp [vq, hK, rc_len hr]
theorem fill_val (place : Nat → Option (Nat × Nat)) (cells : Array Value) (i off : Nat) (v : Value) (hv : v.cells = #[v]) (rest : List (Nat × Value)) (hp : place i = some (off, 1)) (hf : off + 1 ≤ cells.size) :
    Instr.fill place cells ((i, v) :: rest) = Instr.fill place (cells.setIfInBounds off v) rest := by
  rw [Instr.fill, hp]
  simp only [hv]
  rw [if_neg (by simp; omega)]
  rfl
theorem vq_key (p : Value) (K L : List Int) (n : Int) (s : Value) (r : Rf) (x y : Int) (hK : K.length = 32) (hL : L.length = 32) : splice (vq p K n s r x y) 1 (L.map (Value.int .u8)) = vq p L n s r x y := by
  simp [splice, vq, hL, hK]
theorem vq_n (p : Value) (K : List Int) (n m : Int) (s : Value) (r : Rf) (x y : Int) (hK : K.length = 32) : (vq p K n s r x y).set 33 (.int .u64 m) = vq p K m s r x y := by
  simp [vq, hK]
theorem vq_s (p : Value) (K : List Int) (n : Int) (s t : Value) (r : Rf) (x y : Int) (hK : K.length = 32) : splice (vq p K n s r x y) 34 [t] = vq p K n t r x y := by
  simp [splice, vq, List.take_append, List.drop_append, hK]
  rw [List.take_of_length_le (by simp [hK]), List.drop_of_length_le (by simp [hK])]
  rfl
theorem vq_r (p : Value) (K : List Int) (n : Int) (s : Value) (r t : Rf) (x y : Int) (hK : K.length = 32) (hr : OkR r) (ht : OkR t) : splice (vq p K n s r x y) 35 (rc t) = vq p K n s t x y := by
  simp [splice, vq, List.take_append, List.drop_append, hK, rc_len hr, rc_len ht]
  rw [List.take_of_length_le (by simp [hK]), List.drop_of_length_le (by simp [hK])]
  rfl
theorem vq_x (p : Value) (K : List Int) (n : Int) (s : Value) (r : Rf) (x y z : Int) (hK : K.length = 32) (hr : OkR r) : (vq p K n s r x y).set 68 (.int .u64 z) = vq p K n s r z y := by
  simp [vq, hK, rc_len hr]
theorem vq_y (p : Value) (K : List Int) (n : Int) (s : Value) (r : Rf) (x y z : Int) (hK : K.length = 32) (hr : OkR r) : (vq p K n s r x y).set 69 (.int .u64 z) = vq p K n s r x z := by
  simp [vq, hK, rc_len hr]
theorem builtV (parts : List (Nat × Value)) : Tryz.prog.built 102 parts = Instr.fill (fun i => #[(0, 1), (1, 32), (33, 1), (34, 1), (35, 33), (68, 1), (69, 1)][i]?) (vq (.pointer none) z32 0 (.slice none 0 0) zr 0 0).toArray parts := by kernel_rfl
theorem built_V (D : Nat) (v : Vt) (sa : Option Addr) (sc : Nat) (ok : v.Ok) : Tryz.prog.built 102 [(0, .pointer (some ⟨D, 0, none⟩)), (1, .agg (u8s v.key)), (2, .int .u64 (v.n : Int)), (3, .agg #[.slice sa (wid v.n).length sc]), (4, .agg (ra v.top)), (5, .int .u64 v.nx), (6, .int .u64 v.lim)] = some (vcs D v sa sc).toArray := by
  have hz : z32.length = 32 := len_z32
  have hk := ok.key
  have ht := ok.top
  have hu : (u8s v.key).toList = v.key.map (Value.int .u8) := by simp [u8s]
  have hra : (ra v.top).toList = rc v.top := by simp [ra]
  rw [builtV, fill_val _ _ 0 0 _ rfl _ rfl (by rw [List.size_toArray, vq_len _ _ _ _ _ _ _ hz okR_zr]; omega)]
  rw [List.setIfInBounds_toArray, show (vq (.pointer none) z32 0 (.slice none 0 0) zr 0 0).set 0 (.pointer (some ⟨D, 0, none⟩)) = vq (.pointer (some ⟨D, 0, none⟩)) z32 0 (.slice none 0 0) zr 0 0 from rfl]
  rw [fill_step _ _ 1 1 32 _ _ rfl (by rw [size_u8s, hk]) (by rw [List.size_toArray, vq_len _ _ _ _ _ _ _ hz okR_zr]; omega), hu, vq_key _ _ _ _ _ _ _ _ hz hk]
  rw [fill_one _ _ 2 33 _ _ _ rfl (by rw [List.size_toArray, vq_len _ _ _ _ _ _ _ hk okR_zr]; omega), List.setIfInBounds_toArray, vq_n _ _ _ _ _ _ _ _ hk]
  rw [fill_step _ _ 3 34 1 _ _ rfl rfl (by rw [List.size_toArray, vq_len _ _ _ _ _ _ _ hk okR_zr]; omega), show (#[Value.slice sa (wid v.n).length sc]).toList = [.slice sa (wid v.n).length sc] from rfl, vq_s _ _ _ _ _ _ _ _ hk]
  rw [fill_step _ _ 4 35 33 _ _ rfl (size_ra ht) (by rw [List.size_toArray, vq_len _ _ _ _ _ _ _ hk okR_zr]; omega), hra, vq_r _ _ _ _ _ _ _ _ hk okR_zr ht]
  rw [fill_one _ _ 5 68 _ _ _ rfl (by rw [List.size_toArray, vq_len _ _ _ _ _ _ _ hk ht]; omega), List.setIfInBounds_toArray, vq_x _ _ _ _ _ _ _ _ hk ht]
  rw [fill_one _ _ 6 69 _ _ _ rfl (by rw [List.size_toArray, vq_len _ _ _ _ _ _ _ hk ht]; omega), List.setIfInBounds_toArray, vq_y _ _ _ _ _ _ _ _ hk ht, Instr.fill]
  rfl
set_option maxHeartbeats 4000000 in
theorem vnew_ok {w0 w : World} {D : Nat} {fp : Nat → Prop} {d : Disk.Dk} (C : Disk.Cx w0 w D fp d) (K : List Int) (hK : K.length = 32 ∧ Byt K) (n : Nat) (h1 : 1 ≤ n) (h2 : n ≤ 1024) (r : Rf) (hr : OkR r) (nx lim : Int) (hn : 0 ≤ nx ∧ nx ≤ 18446744073709551615) (hl : 0 ≤ lim ∧ lim ≤ 18446744073709551615) (hT : Dig.Tabs w0) (hT2 : Seal.Tab w0) (g1 : 2 * off n (topL n + 1) ≤ d.n) (g2 : nx ≠ 0) (g3 : lim ≤ 9223372036854775807) :
    Calls Tryz.prog 12 #[.pointer (some ⟨D, 0, none⟩), .agg (u8s K), .int .i64 n, .agg (ra r), .int .u64 nx, .int .u64 lim] w fun e w' => ∃ V fp' sa sc, e = .returned (.tuple #[.pointer (some ⟨V, 0, none⟩), .int .i64 0]) ∧ VC w0 w' V D fp' ⟨K, n, r, nx, lim⟩ d sa sc ∧ Below w.heap.size w w' ∧ w.heap.size ≤ V ∧ ∀ k, fp' k → fp k := by
  have HN : Box (∀ x, Below w.heap.size w x → Calls Tryz.prog 31 #[.int .i64 n] x _) := ⟨fun x _ => Shap.new_ok2 n x h1 h2⟩
  obtain ⟨S, hS⟩ : ∃ S, w.heap.size = S := ⟨_, rfl⟩
  obtain ⟨w1, hw1⟩ : ∃ w1, (w.alloc (.cells (u8s K) 23)).alloc (.cells (ra r) 26) = w1 := ⟨_, rfl⟩
  have hb1 : Below w.heap.size w w1 := by rw [← hw1]; exact ((Below.refl _ _).alloc (Nat.le_refl _) _).alloc (by simp) _
  have k1 : w1.heap[S]? = some (.cells (u8s K) 23 (0, 0)) := by rw [← hw1]; exact al_old (al_at hS)
  have k2 : w1.heap[S + 1]? = some (.cells (ra r) 26 (0, 0)) := by rw [← hw1]; exact al_at (by simp [hS])
  have hsz : w1.heap.size = S + 2 := by rw [← hw1]; simp [hS]
  obtain ⟨pl, hpl⟩ : ∃ pl, 2 * off n (topL n + 1) = pl := ⟨_, rfl⟩
  have HP : Box (∀ (a : Option Addr) (cap : Nat) (x : World), Shap.Ints x a (wid n).length (wid n) → Calls Tryz.prog 33 #[.agg #[.slice a (wid n).length cap]] x fun e w' => e = .returned (.int .i64 (pl : Nat)) ∧ Below x.heap.size x w') := ⟨fun a cap x hx => by rw [← hpl]; exact places_any n a cap x h1 h2 hx⟩
  have HD7 : Box (decide ((d.n : Int) < (pl : Int)) = false) := ⟨by simp; omega⟩
  have HD11 : Box ((nx == 0) = false) := ⟨by simpa using g2⟩
  have HD15 : Box (decide (9223372036854775807 < lim) = false) := ⟨by simp; omega⟩
  have HC : Box (Disk.Cx w0 w D fp d ∧ Below w.heap.size w w1 ∧ w1.heap.size = S + 2 ∧ w1.heap[S]? = some (.cells (u8s K) 23 (0, 0)) ∧ w1.heap[S + 1]? = some (.cells (ra r) 26 (0, 0)) ∧ w.heap.size = S) := ⟨C, hb1, hsz, k1, k2, hS⟩
  have HCS : Box (∀ x, Below w.heap.size w x → Calls Tryz.prog 32 #[.pointer (some ⟨D, 0, none⟩)] x fun e w' => e = .returned (.int .i64 (d.n : Int)) ∧ Below x.heap.size x w') := ⟨fun x hx => (Disk.size_cx (C.step hx)).mono (fun e w' h => ⟨h.1, by rw [← h.2]; exact Below.refl _ _⟩)⟩
  have HSN : Box (w.heap.size = S) := ⟨hS⟩
  have HWL : Box (IntKind.u64.wrap (n : Int) = (n : Int)) := ⟨by rw [IntKind.wrap_u64]; omega⟩
  have ok : (⟨K, n, r, nx, lim⟩ : Vt).Ok := ⟨hK.1, hK.2, h1, h2, hr, hn, ⟨hl.1, g3⟩⟩
  have HOK : Box _ := ⟨ok⟩
  have HGO : Box (2 * off n (topL n + 1) ≤ d.n ∧ Dig.Tabs w0 ∧ Seal.Tab w0) := ⟨by omega, hT, hT2⟩
  have HIL : Box ((Tryz.prog.info? 23).map (·.size) = some (K.map (Value.int .u8)).length ∧ (Tryz.prog.info? 26).map (·.size) = some (rc r).length) := ⟨by rw [List.length_map, hK.1]; exact infoSum, by rw [rc_len hr]; exact infoRef⟩
  clear C hb1 hsz k1 k2 hS hpl g1 g2 g3 ok h1 h2 hr hn hl hT hT2 hK
  go_enter Tryz.func12, Tryz.ntmps12
  go_upto_region 1 with fail
  simp only [HSN.out]
  go_upto_region 2 with (first
    | (go_at_call 31; refine (HN.out w1 HC.out.2.1).mono ?_; rintro e x1 ⟨a, sc, rfl, hi, _, hb, hfr⟩; have HB : Box (Below w1.heap.size w1 x1 ∧ Shap.Ints x1 a (wid n).length (wid n) ∧ ∀ ad, a = some ad → w1.heap.size ≤ ad.block) := ⟨hb, hi, hfr⟩; clear hb hi hfr)
    | (refine atAlloc _ ?_; refine wpList_run rfl _ _ (exec_alloc 97 rfl _ infoShp2) ?_)
    | (refine atStore _ ?_; refine wpList_newRow x1 #[.slice none 0 0] #[.slice a (wid n).length sc] infoShp rfl (by simp [Value.oneCell']) rfl _ _ rfl rfl rfl rfl ?_; intro x2 h2 hb2; have HB2 : Box (Below w1.heap.size w1 x2 ∧ Shap.Ints x2 a (wid n).length (wid n) ∧ x2.heap[x1.heap.size]? = some (.cells #[.slice a (wid n).length sc] 97 (0, 0))) := ⟨below_to HB.out.1 hb2, HB.out.2.1.below hb2, h2⟩; clear hb2 h2))
  obtain ⟨Sn, hSn⟩ : ∃ Sn, x1.heap.size = Sn := ⟨_, rfl⟩
  rw [hSn] at HB2 ⊢
  have hbw : ∀ x, Below x2.heap.size x2 x → Below w.heap.size w x := fun x hx => below_to HC.out.2.1 (below_to HB2.out.1 hx)
  have CSZ : Box (∀ x, Below x2.heap.size x2 x → Calls Tryz.prog 32 #[.pointer (some ⟨D, 0, none⟩)] x fun e w' => e = .returned (.int .i64 (d.n : Int)) ∧ Below x.heap.size x w') := ⟨fun x hx => HCS.out x (hbw x hx)⟩
  have CPL : Box (∀ x, Below x2.heap.size x2 x → Calls Tryz.prog 33 #[.agg #[.slice a (wid n).length sc]] x fun e w' => e = .returned (.int .i64 (pl : Nat)) ∧ Below x.heap.size x w') := ⟨fun x hx => HP.out a sc x (HB2.out.2.1.below hx)⟩
  have HLS : Box (∀ x, Below x2.heap.size x2 x → x.rangeAt Sn 0 [.slice a (wid n).length sc]) := ⟨fun x hx => fun j y hy => by
    rw [cell_of_row _ _ _ _ _ _ ((hx.block Sn (Array.getElem?_eq_some_iff.1 HB2.out.2.2).1).trans HB2.out.2.2)]
    simpa using hy⟩
  clear hbw hSn
  refine Seq.begin_any (by kernel_rfl) (fun wd hd => ?_)
  have HX0 : Box (Below x2.heap.size x2 wd) := ⟨hd⟩
  clear hd
  refine Seq.take_lat (i := 0) (v := ?_) rfl (by kernel_rfl) (by kernel_rfl) (by kernel_rfl) (fun _ _ _ h => h) (by rfl) ?_ ?_
  rotate_left
  · intro w' hLat; change Below _ _ _ at hLat; go_simp <;> with_reducible rfl
  try simp only [Act.put, List.setIfInBounds_toArray, List.set_cons_zero, List.set_cons_succ, List.getElem_toArray, List.getElem_cons_zero]
  refine Seq.take_lat (i := 1) (v := ?_) rfl (by kernel_rfl) (by kernel_rfl) (by kernel_rfl) (fun _ _ _ h => h) (by rfl) ?_ ?_
  rotate_left
  · intro w' hLat; change Below _ _ _ at hLat; go_simp <;> with_reducible rfl
  try simp only [Act.put, List.setIfInBounds_toArray, List.set_cons_zero, List.set_cons_succ, List.getElem_toArray, List.getElem_cons_zero, List.getElem_cons_succ]
  refine Seq.take_lat (i := 2) (v := ?_) rfl (by kernel_rfl) (by kernel_rfl) (by kernel_rfl) (fun _ _ _ h => h) (by rfl) ?_ ?_
  rotate_left
  · intro w' hLat; change Below _ _ _ at hLat; go_simp <;> with_reducible rfl
  try simp only [Act.put, List.setIfInBounds_toArray, List.set_cons_zero, List.set_cons_succ, List.getElem_toArray, List.getElem_cons_zero, List.getElem_cons_succ]
  refine Seq.take_lat (i := 3) (v := ?_) rfl (by kernel_rfl) (by kernel_rfl) (by kernel_rfl) (fun _ _ _ h => h) (by rfl) ?_ ?_
  rotate_left
  · intro w' hLat; change Below _ _ _ at hLat; go_simp <;> with_reducible rfl
  try simp only [Act.put, List.setIfInBounds_toArray, List.set_cons_zero, List.set_cons_succ, List.getElem_toArray, List.getElem_cons_zero, List.getElem_cons_succ]
  refine Seq.take_lat (i := 5) (v := .agg #[.slice a (wid n).length sc]) rfl (by kernel_rfl) (by kernel_rfl) (by kernel_rfl) (fun _ _ _ h => h) (by rfl) (fun w' hLat => exec_load_mid 97 _ _ rfl Tryz.underlying97 rfl Sn 0 rfl [.slice a (wid n).length sc] infoShp (HLS.out w' (below_to HX0.out hLat))) ?_
  try simp only [Act.put, List.setIfInBounds_toArray, List.set_cons_zero, List.set_cons_succ, List.getElem_toArray, List.getElem_cons_zero, List.getElem_cons_succ]
  refine Seq.only_lat (i := 4) rfl (by kernel_rfl) (fun KK hK => ?_)
  rw [if_pos (by rfl)]
  go_simp
  refine Calls.mono (CSZ.out wd HX0.out) ?_
  rintro e x4 ⟨rfl, hb⟩
  have HX4 : Box (Below x2.heap.size x2 x4) := ⟨below_to HX0.out hb⟩
  refine hK.out _ _ hb ?_
  clear hb
  clear hK KK
  try simp only [Act.put, List.setIfInBounds_toArray, List.set_cons_zero, List.set_cons_succ, List.getElem_toArray, List.getElem_cons_zero, List.getElem_cons_succ]
  refine Seq.only_lat (i := 6) rfl (by kernel_rfl) (fun KK hK => ?_)
  rw [if_pos (by rfl)]
  go_simp
  refine Calls.mono (CPL.out x4 HX4.out) ?_
  rintro e x5 ⟨rfl, hb⟩
  have HX5 : Box (Below x2.heap.size x2 x5) := ⟨below_to HX4.out hb⟩
  refine hK.out _ _ hb ?_
  clear hb
  clear hK KK
  try simp only [Act.put, List.setIfInBounds_toArray, List.set_cons_zero, List.set_cons_succ, List.getElem_toArray, List.getElem_cons_zero, List.getElem_cons_succ]
  refine Seq.take_lat (i := 7) (v := .bool false) rfl (by kernel_rfl) (by kernel_rfl) (by kernel_rfl) (fun _ _ _ h => h) (by rfl) (fun w' hLat => exec_ltI (.tmp 25) (.tmp 27) _ rfl (d.n : Int) (pl : Int) _ HD7.out rfl rfl) ?_
  try simp only [Act.put, List.setIfInBounds_toArray, List.set_cons_zero, List.set_cons_succ, List.getElem_toArray, List.getElem_cons_zero, List.getElem_cons_succ]
  refine Seq.take_lat (i := 8) (v := ?_) rfl (by kernel_rfl) (by kernel_rfl) (by kernel_rfl) (fun _ _ _ h => h) (by rfl) ?_ ?_
  rotate_left
  · intro w' hLat; change Below _ _ _ at hLat; go_simp <;> with_reducible rfl
  try simp only [Act.put, List.setIfInBounds_toArray, List.set_cons_zero, List.set_cons_succ, List.getElem_toArray, List.getElem_cons_zero, List.getElem_cons_succ]
  refine Seq.take_lat (i := 9) (v := ?_) rfl (by kernel_rfl) (by kernel_rfl) (by kernel_rfl) (fun _ _ _ h => h) (by rfl) ?_ ?_
  rotate_left
  · intro w' hLat; change Below _ _ _ at hLat; go_simp <;> with_reducible rfl
  try simp only [Act.put, List.setIfInBounds_toArray, List.set_cons_zero, List.set_cons_succ, List.getElem_toArray, List.getElem_cons_zero, List.getElem_cons_succ]
  refine Seq.take_lat (i := 10) (v := ?_) rfl (by kernel_rfl) (by kernel_rfl) (by kernel_rfl) (fun _ _ _ h => h) (by rfl) ?_ ?_
  rotate_left
  · intro w' hLat; change Below _ _ _ at hLat; go_simp <;> with_reducible rfl
  try simp only [Act.put, List.setIfInBounds_toArray, List.set_cons_zero, List.set_cons_succ, List.getElem_toArray, List.getElem_cons_zero, List.getElem_cons_succ]
  refine Seq.take_lat (i := 11) (v := .bool false) rfl (by kernel_rfl) (by kernel_rfl) (by kernel_rfl) (fun _ _ _ h => h) (by rfl) (fun w' hLat => exec_eqUc (.tmp 31) (.const (.int .u64 0)) _ rfl nx 0 _ HD11.out rfl rfl) ?_
  try simp only [Act.put, List.setIfInBounds_toArray, List.set_cons_zero, List.set_cons_succ, List.getElem_toArray, List.getElem_cons_zero, List.getElem_cons_succ]
  refine Seq.take_lat (i := 12) (v := ?_) rfl (by kernel_rfl) (by kernel_rfl) (by kernel_rfl) (fun _ _ _ h => h) (by rfl) ?_ ?_
  rotate_left
  · intro w' hLat; change Below _ _ _ at hLat; go_simp <;> with_reducible rfl
  try simp only [Act.put, List.setIfInBounds_toArray, List.set_cons_zero, List.set_cons_succ, List.getElem_toArray, List.getElem_cons_zero, List.getElem_cons_succ]
  refine Seq.take_lat (i := 13) (v := ?_) rfl (by kernel_rfl) (by kernel_rfl) (by kernel_rfl) (fun _ _ _ h => h) (by rfl) ?_ ?_
  rotate_left
  · intro w' hLat; change Below _ _ _ at hLat; go_simp <;> with_reducible rfl
  try simp only [Act.put, List.setIfInBounds_toArray, List.set_cons_zero, List.set_cons_succ, List.getElem_toArray, List.getElem_cons_zero, List.getElem_cons_succ]
  refine Seq.take_lat (i := 14) (v := ?_) rfl (by kernel_rfl) (by kernel_rfl) (by kernel_rfl) (fun _ _ _ h => h) (by rfl) ?_ ?_
  rotate_left
  · intro w' hLat; change Below _ _ _ at hLat; go_simp <;> with_reducible rfl
  try simp only [Act.put, List.setIfInBounds_toArray, List.set_cons_zero, List.set_cons_succ, List.getElem_toArray, List.getElem_cons_zero, List.getElem_cons_succ]
  refine Seq.take_lat (i := 15) (v := .bool false) rfl (by kernel_rfl) (by kernel_rfl) (by kernel_rfl) (fun _ _ _ h => h) (by rfl) (fun w' hLat => exec_gtU (.tmp 35) (.const (.int .u64 9223372036854775807)) _ rfl lim 9223372036854775807 _ HD15.out rfl rfl) ?_
  try simp only [Act.put, List.setIfInBounds_toArray, List.set_cons_zero, List.set_cons_succ, List.getElem_toArray, List.getElem_cons_zero, List.getElem_cons_succ]
  refine Seq.take_lat (i := 16) (v := ?_) rfl (by kernel_rfl) (by kernel_rfl) (by kernel_rfl) (fun _ _ _ h => h) (by rfl) ?_ ?_
  rotate_left
  · intro w' hLat; change Below _ _ _ at hLat; go_simp <;> with_reducible rfl
  try simp only [Act.put, List.setIfInBounds_toArray, List.set_cons_zero, List.set_cons_succ, List.getElem_toArray, List.getElem_cons_zero, List.getElem_cons_succ]
  refine wpAnyH_done (by kernel_rfl) ?_ _
  have b15 : Below w1.heap.size w1 x5 := below_to HB2.out.1 HX5.out
  have hsz := HC.out.2.2.1
  have HK5 : Box (x5.rangeAt S 0 (K.map (Value.int .u8))) := ⟨fun j y hy => by
    rw [cell_of_row _ _ _ _ _ _ ((b15.block S (by omega)).trans HC.out.2.2.2.1), Nat.zero_add]
    simpa [u8s] using hy⟩
  have HR5 : Box (x5.rangeAt (S + 1) 0 (rc r)) := ⟨fun j y hy => by
    rw [cell_of_row _ _ _ _ _ _ ((b15.block (S + 1) (by omega)).trans HC.out.2.2.2.2.1), Nat.zero_add]
    simpa [ra] using hy⟩
  have HS5 : Box (x5.heap[Sn]? = some (.cells #[.slice a (wid n).length sc] 97 (0, 0))) := ⟨(HX5.out.block Sn (Array.getElem?_eq_some_iff.1 HB2.out.2.2).1).trans HB2.out.2.2⟩
  have HVV : Box (Tryz.prog.built 102 [(0, .pointer (some ⟨D, 0, none⟩)), (1, .agg (u8s K)), (2, .int .u64 (n : Int)), (3, .agg #[.slice a (wid n).length sc]), (4, .agg (ra r)), (5, .int .u64 nx), (6, .int .u64 lim)] = some (vcs D ⟨K, n, r, nx, lim⟩ a sc).toArray) := ⟨built_V D ⟨K, n, r, nx, lim⟩ a sc HOK.out⟩
  have hwl := HWL.out
  have HB5 : Box (Below w1.heap.size w1 x5) := ⟨b15⟩
  clear b15 hsz HD7 HD11 HD15 CSZ CPL HLS HX0 HX4 HWL
  go_wp2_with (first
    | (refine atLoad 23 ?_; refine wpList_ldMid rfl 23 _ _ rfl Tryz.underlying23 rfl S 0 rfl (K.map (Value.int .u8)) HIL.out.1 HK5.out ?_)
    | (refine atLoad 26 ?_; refine wpList_ldMid rfl 26 _ _ rfl Tryz.underlying26 rfl (S + 1) 0 rfl (rc r) HIL.out.2 HR5.out ?_)
    | (refine atLoad 97 ?_; refine Shap.wpList_ldS rfl _ rfl Sn (.slice a (wid n).length sc) rfl HS5.out ?_)
    | (refine atBuild 102 ?_; refine wpList_run rfl _ _ (exec_built 102 [(0, .tmp 38), (1, .tmp 39), (2, .tmp 41), (3, .tmp 42), (4, .tmp 43), (5, .tmp 44), (6, .tmp 45)] rfl [(0, .pointer (some ⟨D, 0, none⟩)), (1, .agg (u8s K)), (2, .int .u64 (n : Int)), (3, .agg #[.slice a (wid n).length sc]), (4, .agg (ra r)), (5, .int .u64 nx), (6, .int .u64 lim)] rfl _ HVV.out) ?_))
  go_ret2
  have b05 : Below w.heap.size w x5 := below_to HC.out.2.1 HB5.out
  obtain ⟨x6, hx6⟩ : ∃ x6, x5.alloc (.cells (vcs D ⟨K, n, r, nx, lim⟩ a sc).toArray 102) = x6 := ⟨_, rfl⟩
  have b56 : Below x5.heap.size x5 x6 := by rw [← hx6]; exact (Below.refl _ _).alloc (Nat.le_refl _) _
  have b06 : Below w.heap.size w x6 := below_to b05 b56
  have hrow : x6.heap[x5.heap.size]? = some (.cells (vcs D ⟨K, n, r, nx, lim⟩ a sc).toArray 102 (0, 0)) := by rw [← hx6]; exact al_at rfl
  obtain ⟨fp'', c', hs, hcs⟩ := tight (HC.out.1.step b06)
  have hi5 := HB2.out.2.1.below HX5.out
  have hz := HC.out.2.2.1
  have hw := HC.out.2.2.2.2.2
  have h05 := b05.size
  have h00 := HC.out.1.bel.size
  refine ⟨x5.heap.size, fp'', a, sc, rfl, ?_, by rw [hx6]; exact b06, h05, hs⟩
  rw [hx6]
  refine ⟨c', hrow, hi5.below b56, by omega, fun hf => by have := HC.out.1.hi _ (hs _ hf); omega, fun ad e => ⟨fun hf => by have := HC.out.1.hi _ (hs _ hf); have := HB.out.2.2 ad e; omega, ?_, by have := HB.out.2.2 ad e; omega⟩, hcs, HOK.out, HGO.out.1, HGO.out.2.1, HGO.out.2.2⟩
  have := ints_lt hi5 (wid_pos _) ad e
  omega
set_option maxHeartbeats 4000000 in
theorem vnew_few {w0 w : World} {D : Nat} {fp : Nat → Prop} {d : Disk.Dk} (C : Disk.Cx w0 w D fp d) (K : List Int) (hK : K.length = 32 ∧ Byt K) (r : Rf) (hr : OkR r) (nx lim : Int) (n : Nat) (h1 : 1 ≤ n) (h2 : n ≤ 1024) (g1 : d.n < 2 * off n (topL n + 1)) :
    Calls Tryz.prog 12 #[.pointer (some ⟨D, 0, none⟩), .agg (u8s K), .int .i64 n, .agg (ra r), .int .u64 nx, .int .u64 lim] w fun e w' => e = .returned (.tuple #[.pointer none, .int .i64 1]) ∧ Below w.heap.size w w' := by
  have HN : Box (∀ x, Below w.heap.size w x → Calls Tryz.prog 31 #[.int .i64 n] x _) := ⟨fun x _ => Shap.new_ok2 n x h1 h2⟩
  obtain ⟨S, hS⟩ : ∃ S, w.heap.size = S := ⟨_, rfl⟩
  obtain ⟨w1, hw1⟩ : ∃ w1, (w.alloc (.cells (u8s K) 23)).alloc (.cells (ra r) 26) = w1 := ⟨_, rfl⟩
  have hb1 : Below w.heap.size w w1 := by rw [← hw1]; exact ((Below.refl _ _).alloc (Nat.le_refl _) _).alloc (by simp) _
  obtain ⟨pl, hpl⟩ : ∃ pl, 2 * off n (topL n + 1) = pl := ⟨_, rfl⟩
  have HP : Box (∀ (a : Option Addr) (cap : Nat) (x : World), Shap.Ints x a (wid n).length (wid n) → Calls Tryz.prog 33 #[.agg #[.slice a (wid n).length cap]] x fun e w' => e = .returned (.int .i64 (pl : Nat)) ∧ Below x.heap.size x w') := ⟨fun a cap x hx => by rw [← hpl]; exact places_any n a cap x h1 h2 hx⟩
  have HD7 : Box (decide ((d.n : Int) < (pl : Int)) = true) := ⟨by simp; omega⟩
  have HCS : Box (∀ x, Below w.heap.size w x → Calls Tryz.prog 32 #[.pointer (some ⟨D, 0, none⟩)] x fun e w' => e = .returned (.int .i64 (d.n : Int)) ∧ Below x.heap.size x w') := ⟨fun x hx => (Disk.size_cx (C.step hx)).mono (fun e w' h => ⟨h.1, by rw [← h.2]; exact Below.refl _ _⟩)⟩
  have HC : Box (Below w.heap.size w w1) := ⟨hb1⟩
  have HSN : Box (w.heap.size = S) := ⟨hS⟩
  clear C hb1 hS hr hK
  clear hpl h1 h2
  go_enter Tryz.func12, Tryz.ntmps12
  go_upto_region 1 with fail
  simp only [HSN.out]
  go_upto_region 2 with (first
    | (go_at_call 31; refine (HN.out w1 HC.out).mono ?_; rintro e x1 ⟨a, sc, rfl, hi, _, hb, hfr⟩; have HB : Box (Below w1.heap.size w1 x1 ∧ Shap.Ints x1 a (wid n).length (wid n)) := ⟨hb, hi⟩; clear hb hi hfr)
    | (refine atAlloc _ ?_; refine wpList_run rfl _ _ (exec_alloc 97 rfl _ infoShp2) ?_)
    | (refine atStore _ ?_; refine wpList_newRow x1 #[.slice none 0 0] #[.slice a (wid n).length sc] infoShp rfl (by simp [Value.oneCell']) rfl _ _ rfl rfl rfl rfl ?_; intro x2 h2 hb2; have HB2 : Box (Below w1.heap.size w1 x2 ∧ Shap.Ints x2 a (wid n).length (wid n) ∧ x2.heap[x1.heap.size]? = some (.cells #[.slice a (wid n).length sc] 97 (0, 0))) := ⟨below_to HB.out.1 hb2, HB.out.2.below hb2, h2⟩; clear hb2 h2))
  obtain ⟨Sn, hSn⟩ : ∃ Sn, x1.heap.size = Sn := ⟨_, rfl⟩
  rw [hSn] at HB2 ⊢
  have hbw : ∀ x, Below x2.heap.size x2 x → Below w.heap.size w x := fun x hx => below_to HC.out (below_to HB2.out.1 hx)
  have CSZ : Box (∀ x, Below x2.heap.size x2 x → Calls Tryz.prog 32 #[.pointer (some ⟨D, 0, none⟩)] x fun e w' => e = .returned (.int .i64 (d.n : Int)) ∧ Below x.heap.size x w') := ⟨fun x hx => HCS.out x (hbw x hx)⟩
  have CPL : Box (∀ x, Below x2.heap.size x2 x → Calls Tryz.prog 33 #[.agg #[.slice a (wid n).length sc]] x fun e w' => e = .returned (.int .i64 (pl : Nat)) ∧ Below x.heap.size x w') := ⟨fun x hx => HP.out a sc x (HB2.out.2.1.below hx)⟩
  have HLS : Box (∀ x, Below x2.heap.size x2 x → x.rangeAt Sn 0 [.slice a (wid n).length sc]) := ⟨fun x hx => fun j y hy => by
    rw [cell_of_row _ _ _ _ _ _ ((hx.block Sn (Array.getElem?_eq_some_iff.1 HB2.out.2.2).1).trans HB2.out.2.2)]
    simpa using hy⟩
  clear hbw
  clear hSn
  refine Seq.begin_any (by kernel_rfl) (fun wd hd => ?_)
  have HX0 : Box (Below x2.heap.size x2 wd) := ⟨hd⟩
  clear hd
  refine Seq.take_lat (i := 0) (v := ?_) rfl (by kernel_rfl) (by kernel_rfl) (by kernel_rfl) (fun _ _ _ h => h) (by rfl) ?_ ?_
  rotate_left
  · intro w' hLat; change Below _ _ _ at hLat; go_simp <;> with_reducible rfl
  try simp only [Act.put, List.setIfInBounds_toArray, List.set_cons_zero, List.set_cons_succ, List.getElem_toArray, List.getElem_cons_zero]
  refine Seq.take_lat (i := 1) (v := ?_) rfl (by kernel_rfl) (by kernel_rfl) (by kernel_rfl) (fun _ _ _ h => h) (by rfl) ?_ ?_
  rotate_left
  · intro w' hLat; change Below _ _ _ at hLat; go_simp <;> with_reducible rfl
  try simp only [Act.put, List.setIfInBounds_toArray, List.set_cons_zero, List.set_cons_succ, List.getElem_toArray, List.getElem_cons_zero, List.getElem_cons_succ]
  refine Seq.take_lat (i := 2) (v := ?_) rfl (by kernel_rfl) (by kernel_rfl) (by kernel_rfl) (fun _ _ _ h => h) (by rfl) ?_ ?_
  rotate_left
  · intro w' hLat; change Below _ _ _ at hLat; go_simp <;> with_reducible rfl
  try simp only [Act.put, List.setIfInBounds_toArray, List.set_cons_zero, List.set_cons_succ, List.getElem_toArray, List.getElem_cons_zero, List.getElem_cons_succ]
  refine Seq.take_lat (i := 3) (v := ?_) rfl (by kernel_rfl) (by kernel_rfl) (by kernel_rfl) (fun _ _ _ h => h) (by rfl) ?_ ?_
  rotate_left
  · intro w' hLat; change Below _ _ _ at hLat; go_simp <;> with_reducible rfl
  try simp only [Act.put, List.setIfInBounds_toArray, List.set_cons_zero, List.set_cons_succ, List.getElem_toArray, List.getElem_cons_zero, List.getElem_cons_succ]
  refine Seq.take_lat (i := 5) (v := .agg #[.slice a (wid n).length sc]) rfl (by kernel_rfl) (by kernel_rfl) (by kernel_rfl) (fun _ _ _ h => h) (by rfl) (fun w' hLat => exec_load_mid 97 _ _ rfl Tryz.underlying97 rfl Sn 0 rfl [.slice a (wid n).length sc] infoShp (HLS.out w' (below_to HX0.out hLat))) ?_
  try simp only [Act.put, List.setIfInBounds_toArray, List.set_cons_zero, List.set_cons_succ, List.getElem_toArray, List.getElem_cons_zero, List.getElem_cons_succ]
  refine Seq.only_lat (i := 4) rfl (by kernel_rfl) (fun KK hK => ?_)
  rw [if_pos (by rfl)]
  go_simp
  refine Calls.mono (CSZ.out wd HX0.out) ?_
  rintro e x4 ⟨rfl, hb⟩
  have HX4 : Box (Below x2.heap.size x2 x4) := ⟨below_to HX0.out hb⟩
  refine hK.out _ _ hb ?_
  clear hb
  clear hK KK
  try simp only [Act.put, List.setIfInBounds_toArray, List.set_cons_zero, List.set_cons_succ, List.getElem_toArray, List.getElem_cons_zero, List.getElem_cons_succ]
  refine Seq.only_lat (i := 6) rfl (by kernel_rfl) (fun KK hK => ?_)
  rw [if_pos (by rfl)]
  go_simp
  refine Calls.mono (CPL.out x4 HX4.out) ?_
  rintro e x5 ⟨rfl, hb⟩
  have HX5 : Box (Below x2.heap.size x2 x5) := ⟨below_to HX4.out hb⟩
  refine hK.out _ _ hb ?_
  clear hb
  clear hK KK
  try simp only [Act.put, List.setIfInBounds_toArray, List.set_cons_zero, List.set_cons_succ, List.getElem_toArray, List.getElem_cons_zero, List.getElem_cons_succ]
  refine Seq.take_lat (i := 7) (v := .bool true) rfl (by kernel_rfl) (by kernel_rfl) (by kernel_rfl) (fun _ _ _ h => h) (by rfl) (fun w' hLat => exec_ltI (.tmp 25) (.tmp 27) _ rfl (d.n : Int) (pl : Int) _ HD7.out rfl rfl) ?_
  try simp only [Act.put, List.setIfInBounds_toArray, List.set_cons_zero, List.set_cons_succ, List.getElem_toArray, List.getElem_cons_zero, List.getElem_cons_succ]
  refine Seq.take_lat (i := 8) (v := ?_) rfl (by kernel_rfl) (by kernel_rfl) (by kernel_rfl) (fun _ _ _ h => h) (by rfl) ?_ ?_
  rotate_left
  · intro w' hLat; change Below _ _ _ at hLat; go_simp <;> with_reducible rfl
  try simp only [Act.put, List.setIfInBounds_toArray, List.set_cons_zero, List.set_cons_succ, List.getElem_toArray, List.getElem_cons_zero, List.getElem_cons_succ]
  refine Seq.take_lat (i := 9) (v := ?_) rfl (by kernel_rfl) (by kernel_rfl) (by kernel_rfl) (fun _ _ _ h => h) (by rfl) ?_ ?_
  rotate_left
  · intro w' hLat; change Below _ _ _ at hLat; go_simp <;> with_reducible rfl
  try simp only [Act.put, List.setIfInBounds_toArray, List.set_cons_zero, List.set_cons_succ, List.getElem_toArray, List.getElem_cons_zero, List.getElem_cons_succ]
  refine Seq.pass_lat (i := 10) rfl (by kernel_rfl) (by kernel_rfl) (by kernel_rfl) (fun _ _ _ h => h) (by rfl) ?_
  try simp only [Act.put, List.setIfInBounds_toArray, List.set_cons_zero, List.set_cons_succ, List.getElem_toArray, List.getElem_cons_zero, List.getElem_cons_succ]
  refine Seq.pass_lat (i := 11) rfl (by kernel_rfl) (by kernel_rfl) (by kernel_rfl) (fun _ _ _ h => h) (by rfl) ?_
  try simp only [Act.put, List.setIfInBounds_toArray, List.set_cons_zero, List.set_cons_succ, List.getElem_toArray, List.getElem_cons_zero, List.getElem_cons_succ]
  refine Seq.take_lat (i := 12) (v := ?_) rfl (by kernel_rfl) (by kernel_rfl) (by kernel_rfl) (fun _ _ _ h => h) (by rfl) ?_ ?_
  rotate_left
  · intro w' hLat; change Below _ _ _ at hLat; go_simp <;> with_reducible rfl
  try simp only [Act.put, List.setIfInBounds_toArray, List.set_cons_zero, List.set_cons_succ, List.getElem_toArray, List.getElem_cons_zero, List.getElem_cons_succ]
  refine Seq.take_lat (i := 13) (v := ?_) rfl (by kernel_rfl) (by kernel_rfl) (by kernel_rfl) (fun _ _ _ h => h) (by rfl) ?_ ?_
  rotate_left
  · intro w' hLat; change Below _ _ _ at hLat; go_simp <;> with_reducible rfl
  try simp only [Act.put, List.setIfInBounds_toArray, List.set_cons_zero, List.set_cons_succ, List.getElem_toArray, List.getElem_cons_zero, List.getElem_cons_succ]
  refine Seq.pass_lat (i := 14) rfl (by kernel_rfl) (by kernel_rfl) (by kernel_rfl) (fun _ _ _ h => h) (by rfl) ?_
  try simp only [Act.put, List.setIfInBounds_toArray, List.set_cons_zero, List.set_cons_succ, List.getElem_toArray, List.getElem_cons_zero, List.getElem_cons_succ]
  refine Seq.pass_lat (i := 15) rfl (by kernel_rfl) (by kernel_rfl) (by kernel_rfl) (fun _ _ _ h => h) (by rfl) ?_
  try simp only [Act.put, List.setIfInBounds_toArray, List.set_cons_zero, List.set_cons_succ, List.getElem_toArray, List.getElem_cons_zero, List.getElem_cons_succ]
  refine Seq.take_lat (i := 16) (v := ?_) rfl (by kernel_rfl) (by kernel_rfl) (by kernel_rfl) (fun _ _ _ h => h) (by rfl) ?_ ?_
  rotate_left
  · intro w' hLat; change Below _ _ _ at hLat; go_simp <;> with_reducible rfl
  try simp only [Act.put, List.setIfInBounds_toArray, List.set_cons_zero, List.set_cons_succ, List.getElem_toArray, List.getElem_cons_zero, List.getElem_cons_succ]
  refine wpAnyH_done (by kernel_rfl) ?_ _
  go_wp2
  go_ret2
  exact ⟨rfl, below_to HC.out (below_to HB2.out.1 HX5.out)⟩
set_option maxHeartbeats 4000000 in
theorem vnew_zero {w0 w : World} {D : Nat} {fp : Nat → Prop} {d : Disk.Dk} (C : Disk.Cx w0 w D fp d) (K : List Int) (hK : K.length = 32 ∧ Byt K) (r : Rf) (hr : OkR r) (nx lim : Int) (n : Nat) (h1 : 1 ≤ n) (h2 : n ≤ 1024) (g1 : 2 * off n (topL n + 1) ≤ d.n) (g2 : nx = 0) :
    Calls Tryz.prog 12 #[.pointer (some ⟨D, 0, none⟩), .agg (u8s K), .int .i64 n, .agg (ra r), .int .u64 nx, .int .u64 lim] w fun e w' => e = .returned (.tuple #[.pointer none, .int .i64 1]) ∧ Below w.heap.size w w' := by
  have HN : Box (∀ x, Below w.heap.size w x → Calls Tryz.prog 31 #[.int .i64 n] x _) := ⟨fun x _ => Shap.new_ok2 n x h1 h2⟩
  obtain ⟨S, hS⟩ : ∃ S, w.heap.size = S := ⟨_, rfl⟩
  obtain ⟨w1, hw1⟩ : ∃ w1, (w.alloc (.cells (u8s K) 23)).alloc (.cells (ra r) 26) = w1 := ⟨_, rfl⟩
  have hb1 : Below w.heap.size w w1 := by rw [← hw1]; exact ((Below.refl _ _).alloc (Nat.le_refl _) _).alloc (by simp) _
  obtain ⟨pl, hpl⟩ : ∃ pl, 2 * off n (topL n + 1) = pl := ⟨_, rfl⟩
  have HP : Box (∀ (a : Option Addr) (cap : Nat) (x : World), Shap.Ints x a (wid n).length (wid n) → Calls Tryz.prog 33 #[.agg #[.slice a (wid n).length cap]] x fun e w' => e = .returned (.int .i64 (pl : Nat)) ∧ Below x.heap.size x w') := ⟨fun a cap x hx => by rw [← hpl]; exact places_any n a cap x h1 h2 hx⟩
  have HD7 : Box (decide ((d.n : Int) < (pl : Int)) = false) := ⟨by simp; omega⟩
  have HD11 : Box ((nx == 0) = true) := ⟨by simpa using g2⟩
  clear g2
  have HCS : Box (∀ x, Below w.heap.size w x → Calls Tryz.prog 32 #[.pointer (some ⟨D, 0, none⟩)] x fun e w' => e = .returned (.int .i64 (d.n : Int)) ∧ Below x.heap.size x w') := ⟨fun x hx => (Disk.size_cx (C.step hx)).mono (fun e w' h => ⟨h.1, by rw [← h.2]; exact Below.refl _ _⟩)⟩
  have HC : Box (Below w.heap.size w w1) := ⟨hb1⟩
  have HSN : Box (w.heap.size = S) := ⟨hS⟩
  clear C hb1 hS hr hK
  clear hpl h1 h2
  go_enter Tryz.func12, Tryz.ntmps12
  go_upto_region 1 with fail
  simp only [HSN.out]
  go_upto_region 2 with (first
    | (go_at_call 31; refine (HN.out w1 HC.out).mono ?_; rintro e x1 ⟨a, sc, rfl, hi, _, hb, hfr⟩; have HB : Box (Below w1.heap.size w1 x1 ∧ Shap.Ints x1 a (wid n).length (wid n)) := ⟨hb, hi⟩; clear hb hi hfr)
    | (refine atAlloc _ ?_; refine wpList_run rfl _ _ (exec_alloc 97 rfl _ infoShp2) ?_)
    | (refine atStore _ ?_; refine wpList_newRow x1 #[.slice none 0 0] #[.slice a (wid n).length sc] infoShp rfl (by simp [Value.oneCell']) rfl _ _ rfl rfl rfl rfl ?_; intro x2 h2 hb2; have HB2 : Box (Below w1.heap.size w1 x2 ∧ Shap.Ints x2 a (wid n).length (wid n) ∧ x2.heap[x1.heap.size]? = some (.cells #[.slice a (wid n).length sc] 97 (0, 0))) := ⟨below_to HB.out.1 hb2, HB.out.2.below hb2, h2⟩; clear hb2 h2))
  obtain ⟨Sn, hSn⟩ : ∃ Sn, x1.heap.size = Sn := ⟨_, rfl⟩
  rw [hSn] at HB2 ⊢
  have hbw : ∀ x, Below x2.heap.size x2 x → Below w.heap.size w x := fun x hx => below_to HC.out (below_to HB2.out.1 hx)
  have CSZ : Box (∀ x, Below x2.heap.size x2 x → Calls Tryz.prog 32 #[.pointer (some ⟨D, 0, none⟩)] x fun e w' => e = .returned (.int .i64 (d.n : Int)) ∧ Below x.heap.size x w') := ⟨fun x hx => HCS.out x (hbw x hx)⟩
  have CPL : Box (∀ x, Below x2.heap.size x2 x → Calls Tryz.prog 33 #[.agg #[.slice a (wid n).length sc]] x fun e w' => e = .returned (.int .i64 (pl : Nat)) ∧ Below x.heap.size x w') := ⟨fun x hx => HP.out a sc x (HB2.out.2.1.below hx)⟩
  have HLS : Box (∀ x, Below x2.heap.size x2 x → x.rangeAt Sn 0 [.slice a (wid n).length sc]) := ⟨fun x hx => fun j y hy => by
    rw [cell_of_row _ _ _ _ _ _ ((hx.block Sn (Array.getElem?_eq_some_iff.1 HB2.out.2.2).1).trans HB2.out.2.2)]
    simpa using hy⟩
  clear hbw
  clear hSn
  refine Seq.begin_any (by kernel_rfl) (fun wd hd => ?_)
  have HX0 : Box (Below x2.heap.size x2 wd) := ⟨hd⟩
  clear hd
  refine Seq.take_lat (i := 0) (v := ?_) rfl (by kernel_rfl) (by kernel_rfl) (by kernel_rfl) (fun _ _ _ h => h) (by rfl) ?_ ?_
  rotate_left
  · intro w' hLat; change Below _ _ _ at hLat; go_simp <;> with_reducible rfl
  try simp only [Act.put, List.setIfInBounds_toArray, List.set_cons_zero, List.set_cons_succ, List.getElem_toArray, List.getElem_cons_zero]
  refine Seq.take_lat (i := 1) (v := ?_) rfl (by kernel_rfl) (by kernel_rfl) (by kernel_rfl) (fun _ _ _ h => h) (by rfl) ?_ ?_
  rotate_left
  · intro w' hLat; change Below _ _ _ at hLat; go_simp <;> with_reducible rfl
  try simp only [Act.put, List.setIfInBounds_toArray, List.set_cons_zero, List.set_cons_succ, List.getElem_toArray, List.getElem_cons_zero, List.getElem_cons_succ]
  refine Seq.take_lat (i := 2) (v := ?_) rfl (by kernel_rfl) (by kernel_rfl) (by kernel_rfl) (fun _ _ _ h => h) (by rfl) ?_ ?_
  rotate_left
  · intro w' hLat; change Below _ _ _ at hLat; go_simp <;> with_reducible rfl
  try simp only [Act.put, List.setIfInBounds_toArray, List.set_cons_zero, List.set_cons_succ, List.getElem_toArray, List.getElem_cons_zero, List.getElem_cons_succ]
  refine Seq.take_lat (i := 3) (v := ?_) rfl (by kernel_rfl) (by kernel_rfl) (by kernel_rfl) (fun _ _ _ h => h) (by rfl) ?_ ?_
  rotate_left
  · intro w' hLat; change Below _ _ _ at hLat; go_simp <;> with_reducible rfl
  try simp only [Act.put, List.setIfInBounds_toArray, List.set_cons_zero, List.set_cons_succ, List.getElem_toArray, List.getElem_cons_zero, List.getElem_cons_succ]
  refine Seq.take_lat (i := 5) (v := .agg #[.slice a (wid n).length sc]) rfl (by kernel_rfl) (by kernel_rfl) (by kernel_rfl) (fun _ _ _ h => h) (by rfl) (fun w' hLat => exec_load_mid 97 _ _ rfl Tryz.underlying97 rfl Sn 0 rfl [.slice a (wid n).length sc] infoShp (HLS.out w' (below_to HX0.out hLat))) ?_
  try simp only [Act.put, List.setIfInBounds_toArray, List.set_cons_zero, List.set_cons_succ, List.getElem_toArray, List.getElem_cons_zero, List.getElem_cons_succ]
  refine Seq.only_lat (i := 4) rfl (by kernel_rfl) (fun KK hK => ?_)
  rw [if_pos (by rfl)]
  go_simp
  refine Calls.mono (CSZ.out wd HX0.out) ?_
  rintro e x4 ⟨rfl, hb⟩
  have HX4 : Box (Below x2.heap.size x2 x4) := ⟨below_to HX0.out hb⟩
  refine hK.out _ _ hb ?_
  clear hb
  clear hK KK
  try simp only [Act.put, List.setIfInBounds_toArray, List.set_cons_zero, List.set_cons_succ, List.getElem_toArray, List.getElem_cons_zero, List.getElem_cons_succ]
  refine Seq.only_lat (i := 6) rfl (by kernel_rfl) (fun KK hK => ?_)
  rw [if_pos (by rfl)]
  go_simp
  refine Calls.mono (CPL.out x4 HX4.out) ?_
  rintro e x5 ⟨rfl, hb⟩
  have HX5 : Box (Below x2.heap.size x2 x5) := ⟨below_to HX4.out hb⟩
  refine hK.out _ _ hb ?_
  clear hb
  clear hK KK
  try simp only [Act.put, List.setIfInBounds_toArray, List.set_cons_zero, List.set_cons_succ, List.getElem_toArray, List.getElem_cons_zero, List.getElem_cons_succ]
  refine Seq.take_lat (i := 7) (v := .bool false) rfl (by kernel_rfl) (by kernel_rfl) (by kernel_rfl) (fun _ _ _ h => h) (by rfl) (fun w' hLat => exec_ltI (.tmp 25) (.tmp 27) _ rfl (d.n : Int) (pl : Int) _ HD7.out rfl rfl) ?_
  try simp only [Act.put, List.setIfInBounds_toArray, List.set_cons_zero, List.set_cons_succ, List.getElem_toArray, List.getElem_cons_zero, List.getElem_cons_succ]
  refine Seq.take_lat (i := 8) (v := ?_) rfl (by kernel_rfl) (by kernel_rfl) (by kernel_rfl) (fun _ _ _ h => h) (by rfl) ?_ ?_
  rotate_left
  · intro w' hLat; change Below _ _ _ at hLat; go_simp <;> with_reducible rfl
  try simp only [Act.put, List.setIfInBounds_toArray, List.set_cons_zero, List.set_cons_succ, List.getElem_toArray, List.getElem_cons_zero, List.getElem_cons_succ]
  refine Seq.take_lat (i := 9) (v := ?_) rfl (by kernel_rfl) (by kernel_rfl) (by kernel_rfl) (fun _ _ _ h => h) (by rfl) ?_ ?_
  rotate_left
  · intro w' hLat; change Below _ _ _ at hLat; go_simp <;> with_reducible rfl
  try simp only [Act.put, List.setIfInBounds_toArray, List.set_cons_zero, List.set_cons_succ, List.getElem_toArray, List.getElem_cons_zero, List.getElem_cons_succ]
  refine Seq.take_lat (i := 10) (v := ?_) rfl (by kernel_rfl) (by kernel_rfl) (by kernel_rfl) (fun _ _ _ h => h) (by rfl) ?_ ?_
  rotate_left
  · intro w' hLat; change Below _ _ _ at hLat; go_simp <;> with_reducible rfl
  try simp only [Act.put, List.setIfInBounds_toArray, List.set_cons_zero, List.set_cons_succ, List.getElem_toArray, List.getElem_cons_zero, List.getElem_cons_succ]
  refine Seq.take_lat (i := 11) (v := .bool true) rfl (by kernel_rfl) (by kernel_rfl) (by kernel_rfl) (fun _ _ _ h => h) (by rfl) (fun w' hLat => exec_eqUc (.tmp 31) (.const (.int .u64 0)) _ rfl nx 0 _ HD11.out rfl rfl) ?_
  try simp only [Act.put, List.setIfInBounds_toArray, List.set_cons_zero, List.set_cons_succ, List.getElem_toArray, List.getElem_cons_zero, List.getElem_cons_succ]
  refine Seq.take_lat (i := 12) (v := ?_) rfl (by kernel_rfl) (by kernel_rfl) (by kernel_rfl) (fun _ _ _ h => h) (by rfl) ?_ ?_
  rotate_left
  · intro w' hLat; change Below _ _ _ at hLat; go_simp <;> with_reducible rfl
  try simp only [Act.put, List.setIfInBounds_toArray, List.set_cons_zero, List.set_cons_succ, List.getElem_toArray, List.getElem_cons_zero, List.getElem_cons_succ]
  refine Seq.take_lat (i := 13) (v := ?_) rfl (by kernel_rfl) (by kernel_rfl) (by kernel_rfl) (fun _ _ _ h => h) (by rfl) ?_ ?_
  rotate_left
  · intro w' hLat; change Below _ _ _ at hLat; go_simp <;> with_reducible rfl
  try simp only [Act.put, List.setIfInBounds_toArray, List.set_cons_zero, List.set_cons_succ, List.getElem_toArray, List.getElem_cons_zero, List.getElem_cons_succ]
  refine Seq.pass_lat (i := 14) rfl (by kernel_rfl) (by kernel_rfl) (by kernel_rfl) (fun _ _ _ h => h) (by rfl) ?_
  try simp only [Act.put, List.setIfInBounds_toArray, List.set_cons_zero, List.set_cons_succ, List.getElem_toArray, List.getElem_cons_zero, List.getElem_cons_succ]
  refine Seq.pass_lat (i := 15) rfl (by kernel_rfl) (by kernel_rfl) (by kernel_rfl) (fun _ _ _ h => h) (by rfl) ?_
  try simp only [Act.put, List.setIfInBounds_toArray, List.set_cons_zero, List.set_cons_succ, List.getElem_toArray, List.getElem_cons_zero, List.getElem_cons_succ]
  refine Seq.take_lat (i := 16) (v := ?_) rfl (by kernel_rfl) (by kernel_rfl) (by kernel_rfl) (fun _ _ _ h => h) (by rfl) ?_ ?_
  rotate_left
  · intro w' hLat; change Below _ _ _ at hLat; go_simp <;> with_reducible rfl
  try simp only [Act.put, List.setIfInBounds_toArray, List.set_cons_zero, List.set_cons_succ, List.getElem_toArray, List.getElem_cons_zero, List.getElem_cons_succ]
  refine wpAnyH_done (by kernel_rfl) ?_ _
  go_wp2
  go_ret2
  exact ⟨rfl, below_to HC.out (below_to HB2.out.1 HX5.out)⟩
set_option maxHeartbeats 4000000 in
theorem vnew_far {w0 w : World} {D : Nat} {fp : Nat → Prop} {d : Disk.Dk} (C : Disk.Cx w0 w D fp d) (K : List Int) (hK : K.length = 32 ∧ Byt K) (r : Rf) (hr : OkR r) (nx lim : Int) (n : Nat) (h1 : 1 ≤ n) (h2 : n ≤ 1024) (g1 : 2 * off n (topL n + 1) ≤ d.n) (g2 : nx ≠ 0) (g3 : 9223372036854775807 < lim) :
    Calls Tryz.prog 12 #[.pointer (some ⟨D, 0, none⟩), .agg (u8s K), .int .i64 n, .agg (ra r), .int .u64 nx, .int .u64 lim] w fun e w' => e = .returned (.tuple #[.pointer none, .int .i64 1]) ∧ Below w.heap.size w w' := by
  have HN : Box (∀ x, Below w.heap.size w x → Calls Tryz.prog 31 #[.int .i64 n] x _) := ⟨fun x _ => Shap.new_ok2 n x h1 h2⟩
  obtain ⟨S, hS⟩ : ∃ S, w.heap.size = S := ⟨_, rfl⟩
  obtain ⟨w1, hw1⟩ : ∃ w1, (w.alloc (.cells (u8s K) 23)).alloc (.cells (ra r) 26) = w1 := ⟨_, rfl⟩
  have hb1 : Below w.heap.size w w1 := by rw [← hw1]; exact ((Below.refl _ _).alloc (Nat.le_refl _) _).alloc (by simp) _
  obtain ⟨pl, hpl⟩ : ∃ pl, 2 * off n (topL n + 1) = pl := ⟨_, rfl⟩
  have HP : Box (∀ (a : Option Addr) (cap : Nat) (x : World), Shap.Ints x a (wid n).length (wid n) → Calls Tryz.prog 33 #[.agg #[.slice a (wid n).length cap]] x fun e w' => e = .returned (.int .i64 (pl : Nat)) ∧ Below x.heap.size x w') := ⟨fun a cap x hx => by rw [← hpl]; exact places_any n a cap x h1 h2 hx⟩
  have HD7 : Box (decide ((d.n : Int) < (pl : Int)) = false) := ⟨by simp; omega⟩
  have HD11 : Box ((nx == 0) = false) := ⟨by simpa using g2⟩
  have HD15 : Box (decide (9223372036854775807 < lim) = true) := ⟨by simpa using g3⟩
  have HCS : Box (∀ x, Below w.heap.size w x → Calls Tryz.prog 32 #[.pointer (some ⟨D, 0, none⟩)] x fun e w' => e = .returned (.int .i64 (d.n : Int)) ∧ Below x.heap.size x w') := ⟨fun x hx => (Disk.size_cx (C.step hx)).mono (fun e w' h => ⟨h.1, by rw [← h.2]; exact Below.refl _ _⟩)⟩
  have HC : Box (Below w.heap.size w w1) := ⟨hb1⟩
  have HSN : Box (w.heap.size = S) := ⟨hS⟩
  clear C hb1 hS hr hK
  clear hpl h1 h2
  go_enter Tryz.func12, Tryz.ntmps12
  go_upto_region 1 with fail
  simp only [HSN.out]
  go_upto_region 2 with (first
    | (go_at_call 31; refine (HN.out w1 HC.out).mono ?_; rintro e x1 ⟨a, sc, rfl, hi, _, hb, hfr⟩; have HB : Box (Below w1.heap.size w1 x1 ∧ Shap.Ints x1 a (wid n).length (wid n)) := ⟨hb, hi⟩; clear hb hi hfr)
    | (refine atAlloc _ ?_; refine wpList_run rfl _ _ (exec_alloc 97 rfl _ infoShp2) ?_)
    | (refine atStore _ ?_; refine wpList_newRow x1 #[.slice none 0 0] #[.slice a (wid n).length sc] infoShp rfl (by simp [Value.oneCell']) rfl _ _ rfl rfl rfl rfl ?_; intro x2 h2 hb2; have HB2 : Box (Below w1.heap.size w1 x2 ∧ Shap.Ints x2 a (wid n).length (wid n) ∧ x2.heap[x1.heap.size]? = some (.cells #[.slice a (wid n).length sc] 97 (0, 0))) := ⟨below_to HB.out.1 hb2, HB.out.2.below hb2, h2⟩; clear hb2 h2))
  obtain ⟨Sn, hSn⟩ : ∃ Sn, x1.heap.size = Sn := ⟨_, rfl⟩
  rw [hSn] at HB2 ⊢
  have hbw : ∀ x, Below x2.heap.size x2 x → Below w.heap.size w x := fun x hx => below_to HC.out (below_to HB2.out.1 hx)
  have CSZ : Box (∀ x, Below x2.heap.size x2 x → Calls Tryz.prog 32 #[.pointer (some ⟨D, 0, none⟩)] x fun e w' => e = .returned (.int .i64 (d.n : Int)) ∧ Below x.heap.size x w') := ⟨fun x hx => HCS.out x (hbw x hx)⟩
  have CPL : Box (∀ x, Below x2.heap.size x2 x → Calls Tryz.prog 33 #[.agg #[.slice a (wid n).length sc]] x fun e w' => e = .returned (.int .i64 (pl : Nat)) ∧ Below x.heap.size x w') := ⟨fun x hx => HP.out a sc x (HB2.out.2.1.below hx)⟩
  have HLS : Box (∀ x, Below x2.heap.size x2 x → x.rangeAt Sn 0 [.slice a (wid n).length sc]) := ⟨fun x hx => fun j y hy => by
    rw [cell_of_row _ _ _ _ _ _ ((hx.block Sn (Array.getElem?_eq_some_iff.1 HB2.out.2.2).1).trans HB2.out.2.2)]
    simpa using hy⟩
  clear hbw
  clear hSn
  refine Seq.begin_any (by kernel_rfl) (fun wd hd => ?_)
  have HX0 : Box (Below x2.heap.size x2 wd) := ⟨hd⟩
  clear hd
  refine Seq.take_lat (i := 0) (v := ?_) rfl (by kernel_rfl) (by kernel_rfl) (by kernel_rfl) (fun _ _ _ h => h) (by rfl) ?_ ?_
  rotate_left
  · intro w' hLat; change Below _ _ _ at hLat; go_simp <;> with_reducible rfl
  try simp only [Act.put, List.setIfInBounds_toArray, List.set_cons_zero, List.set_cons_succ, List.getElem_toArray, List.getElem_cons_zero]
  refine Seq.take_lat (i := 1) (v := ?_) rfl (by kernel_rfl) (by kernel_rfl) (by kernel_rfl) (fun _ _ _ h => h) (by rfl) ?_ ?_
  rotate_left
  · intro w' hLat; change Below _ _ _ at hLat; go_simp <;> with_reducible rfl
  try simp only [Act.put, List.setIfInBounds_toArray, List.set_cons_zero, List.set_cons_succ, List.getElem_toArray, List.getElem_cons_zero, List.getElem_cons_succ]
  refine Seq.take_lat (i := 2) (v := ?_) rfl (by kernel_rfl) (by kernel_rfl) (by kernel_rfl) (fun _ _ _ h => h) (by rfl) ?_ ?_
  rotate_left
  · intro w' hLat; change Below _ _ _ at hLat; go_simp <;> with_reducible rfl
  try simp only [Act.put, List.setIfInBounds_toArray, List.set_cons_zero, List.set_cons_succ, List.getElem_toArray, List.getElem_cons_zero, List.getElem_cons_succ]
  refine Seq.take_lat (i := 3) (v := ?_) rfl (by kernel_rfl) (by kernel_rfl) (by kernel_rfl) (fun _ _ _ h => h) (by rfl) ?_ ?_
  rotate_left
  · intro w' hLat; change Below _ _ _ at hLat; go_simp <;> with_reducible rfl
  try simp only [Act.put, List.setIfInBounds_toArray, List.set_cons_zero, List.set_cons_succ, List.getElem_toArray, List.getElem_cons_zero, List.getElem_cons_succ]
  refine Seq.take_lat (i := 5) (v := .agg #[.slice a (wid n).length sc]) rfl (by kernel_rfl) (by kernel_rfl) (by kernel_rfl) (fun _ _ _ h => h) (by rfl) (fun w' hLat => exec_load_mid 97 _ _ rfl Tryz.underlying97 rfl Sn 0 rfl [.slice a (wid n).length sc] infoShp (HLS.out w' (below_to HX0.out hLat))) ?_
  try simp only [Act.put, List.setIfInBounds_toArray, List.set_cons_zero, List.set_cons_succ, List.getElem_toArray, List.getElem_cons_zero, List.getElem_cons_succ]
  refine Seq.only_lat (i := 4) rfl (by kernel_rfl) (fun KK hK => ?_)
  rw [if_pos (by rfl)]
  go_simp
  refine Calls.mono (CSZ.out wd HX0.out) ?_
  rintro e x4 ⟨rfl, hb⟩
  have HX4 : Box (Below x2.heap.size x2 x4) := ⟨below_to HX0.out hb⟩
  refine hK.out _ _ hb ?_
  clear hb
  clear hK KK
  try simp only [Act.put, List.setIfInBounds_toArray, List.set_cons_zero, List.set_cons_succ, List.getElem_toArray, List.getElem_cons_zero, List.getElem_cons_succ]
  refine Seq.only_lat (i := 6) rfl (by kernel_rfl) (fun KK hK => ?_)
  rw [if_pos (by rfl)]
  go_simp
  refine Calls.mono (CPL.out x4 HX4.out) ?_
  rintro e x5 ⟨rfl, hb⟩
  have HX5 : Box (Below x2.heap.size x2 x5) := ⟨below_to HX4.out hb⟩
  refine hK.out _ _ hb ?_
  clear hb
  clear hK KK
  try simp only [Act.put, List.setIfInBounds_toArray, List.set_cons_zero, List.set_cons_succ, List.getElem_toArray, List.getElem_cons_zero, List.getElem_cons_succ]
  refine Seq.take_lat (i := 7) (v := .bool false) rfl (by kernel_rfl) (by kernel_rfl) (by kernel_rfl) (fun _ _ _ h => h) (by rfl) (fun w' hLat => exec_ltI (.tmp 25) (.tmp 27) _ rfl (d.n : Int) (pl : Int) _ HD7.out rfl rfl) ?_
  try simp only [Act.put, List.setIfInBounds_toArray, List.set_cons_zero, List.set_cons_succ, List.getElem_toArray, List.getElem_cons_zero, List.getElem_cons_succ]
  refine Seq.take_lat (i := 8) (v := ?_) rfl (by kernel_rfl) (by kernel_rfl) (by kernel_rfl) (fun _ _ _ h => h) (by rfl) ?_ ?_
  rotate_left
  · intro w' hLat; change Below _ _ _ at hLat; go_simp <;> with_reducible rfl
  try simp only [Act.put, List.setIfInBounds_toArray, List.set_cons_zero, List.set_cons_succ, List.getElem_toArray, List.getElem_cons_zero, List.getElem_cons_succ]
  refine Seq.take_lat (i := 9) (v := ?_) rfl (by kernel_rfl) (by kernel_rfl) (by kernel_rfl) (fun _ _ _ h => h) (by rfl) ?_ ?_
  rotate_left
  · intro w' hLat; change Below _ _ _ at hLat; go_simp <;> with_reducible rfl
  try simp only [Act.put, List.setIfInBounds_toArray, List.set_cons_zero, List.set_cons_succ, List.getElem_toArray, List.getElem_cons_zero, List.getElem_cons_succ]
  refine Seq.take_lat (i := 10) (v := ?_) rfl (by kernel_rfl) (by kernel_rfl) (by kernel_rfl) (fun _ _ _ h => h) (by rfl) ?_ ?_
  rotate_left
  · intro w' hLat; change Below _ _ _ at hLat; go_simp <;> with_reducible rfl
  try simp only [Act.put, List.setIfInBounds_toArray, List.set_cons_zero, List.set_cons_succ, List.getElem_toArray, List.getElem_cons_zero, List.getElem_cons_succ]
  refine Seq.take_lat (i := 11) (v := .bool false) rfl (by kernel_rfl) (by kernel_rfl) (by kernel_rfl) (fun _ _ _ h => h) (by rfl) (fun w' hLat => exec_eqUc (.tmp 31) (.const (.int .u64 0)) _ rfl nx 0 _ HD11.out rfl rfl) ?_
  try simp only [Act.put, List.setIfInBounds_toArray, List.set_cons_zero, List.set_cons_succ, List.getElem_toArray, List.getElem_cons_zero, List.getElem_cons_succ]
  refine Seq.take_lat (i := 12) (v := ?_) rfl (by kernel_rfl) (by kernel_rfl) (by kernel_rfl) (fun _ _ _ h => h) (by rfl) ?_ ?_
  rotate_left
  · intro w' hLat; change Below _ _ _ at hLat; go_simp <;> with_reducible rfl
  try simp only [Act.put, List.setIfInBounds_toArray, List.set_cons_zero, List.set_cons_succ, List.getElem_toArray, List.getElem_cons_zero, List.getElem_cons_succ]
  refine Seq.take_lat (i := 13) (v := ?_) rfl (by kernel_rfl) (by kernel_rfl) (by kernel_rfl) (fun _ _ _ h => h) (by rfl) ?_ ?_
  rotate_left
  · intro w' hLat; change Below _ _ _ at hLat; go_simp <;> with_reducible rfl
  try simp only [Act.put, List.setIfInBounds_toArray, List.set_cons_zero, List.set_cons_succ, List.getElem_toArray, List.getElem_cons_zero, List.getElem_cons_succ]
  refine Seq.take_lat (i := 14) (v := ?_) rfl (by kernel_rfl) (by kernel_rfl) (by kernel_rfl) (fun _ _ _ h => h) (by rfl) ?_ ?_
  rotate_left
  · intro w' hLat; change Below _ _ _ at hLat; go_simp <;> with_reducible rfl
  try simp only [Act.put, List.setIfInBounds_toArray, List.set_cons_zero, List.set_cons_succ, List.getElem_toArray, List.getElem_cons_zero, List.getElem_cons_succ]
  refine Seq.take_lat (i := 15) (v := .bool true) rfl (by kernel_rfl) (by kernel_rfl) (by kernel_rfl) (fun _ _ _ h => h) (by rfl) (fun w' hLat => exec_gtU (.tmp 35) (.const (.int .u64 9223372036854775807)) _ rfl lim 9223372036854775807 _ HD15.out rfl rfl) ?_
  try simp only [Act.put, List.setIfInBounds_toArray, List.set_cons_zero, List.set_cons_succ, List.getElem_toArray, List.getElem_cons_zero, List.getElem_cons_succ]
  refine Seq.take_lat (i := 16) (v := ?_) rfl (by kernel_rfl) (by kernel_rfl) (by kernel_rfl) (fun _ _ _ h => h) (by rfl) ?_ ?_
  rotate_left
  · intro w' hLat; change Below _ _ _ at hLat; go_simp <;> with_reducible rfl
  try simp only [Act.put, List.setIfInBounds_toArray, List.set_cons_zero, List.set_cons_succ, List.getElem_toArray, List.getElem_cons_zero, List.getElem_cons_succ]
  refine wpAnyH_done (by kernel_rfl) ?_ _
  go_wp2
  go_ret2
  exact ⟨rfl, below_to HC.out (below_to HB2.out.1 HX5.out)⟩
set_option maxHeartbeats 4000000 in
theorem vnew_bad {w0 w : World} {D : Nat} {fp : Nat → Prop} {d : Disk.Dk} (C : Disk.Cx w0 w D fp d) (K : List Int) (hK : K.length = 32 ∧ Byt K) (r : Rf) (hr : OkR r) (nx lim : Int) (leaves : Int) (hle : leaves < 1 ∨ 1024 < leaves) :
    Calls Tryz.prog 12 #[.pointer (some ⟨D, 0, none⟩), .agg (u8s K), .int .i64 leaves, .agg (ra r), .int .u64 nx, .int .u64 lim] w fun e w' => e = .returned (.tuple #[.pointer none, .int .i64 1]) ∧ Below w.heap.size w w' := by
  have HN : Box (∀ x, Below w.heap.size w x → Calls Tryz.prog 31 #[.int .i64 leaves] x _) := ⟨fun x _ => Shap.new_no leaves x hle⟩
  obtain ⟨S, hS⟩ : ∃ S, w.heap.size = S := ⟨_, rfl⟩
  obtain ⟨w1, hw1⟩ : ∃ w1, (w.alloc (.cells (u8s K) 23)).alloc (.cells (ra r) 26) = w1 := ⟨_, rfl⟩
  have hb1 : Below w.heap.size w w1 := by rw [← hw1]; exact ((Below.refl _ _).alloc (Nat.le_refl _) _).alloc (by simp) _
  have HC : Box (Below w.heap.size w w1) := ⟨hb1⟩
  have HSN : Box (w.heap.size = S) := ⟨hS⟩
  clear C hb1 hS hr hK
  go_enter Tryz.func12, Tryz.ntmps12
  go_upto_region 1 with fail
  simp only [HSN.out]
  go_upto_region 2 with (first
    | (go_at_call 31; refine (HN.out w1 HC.out).mono ?_; rintro e x1 ⟨rfl, hb⟩; have HB : Box (Below w1.heap.size w1 x1 ∧ True) := ⟨hb, trivial⟩; clear hb)
    | (refine atAlloc _ ?_; refine wpList_run rfl _ _ (exec_alloc 97 rfl _ infoShp2) ?_)
    | (refine atStore _ ?_; refine wpList_newRow x1 #[.slice none 0 0] #[.slice none 0 0] infoShp rfl (by simp [Value.oneCell']) rfl _ _ rfl rfl rfl rfl ?_; intro x2 h2 hb2; have HB2 : Box (Below w1.heap.size w1 x2 ∧ True ∧ x2.heap[x1.heap.size]? = some (.cells #[.slice none 0 0] 97 (0, 0))) := ⟨below_to HB.out.1 hb2, trivial, h2⟩; clear hb2 h2))
  obtain ⟨Sn, hSn⟩ : ∃ Sn, x1.heap.size = Sn := ⟨_, rfl⟩
  rw [hSn] at HB2 ⊢
  clear hSn
  refine Seq.begin_any (by kernel_rfl) (fun wd hd => ?_)
  have HX0 : Box (Below x2.heap.size x2 wd) := ⟨hd⟩
  clear hd
  refine Seq.take_lat (i := 0) (v := ?_) rfl (by kernel_rfl) (by kernel_rfl) (by kernel_rfl) (fun _ _ _ h => h) (by rfl) ?_ ?_
  rotate_left
  · intro w' hLat; change Below _ _ _ at hLat; go_simp <;> with_reducible rfl
  try simp only [Act.put, List.setIfInBounds_toArray, List.set_cons_zero, List.set_cons_succ, List.getElem_toArray, List.getElem_cons_zero]
  refine Seq.take_lat (i := 1) (v := ?_) rfl (by kernel_rfl) (by kernel_rfl) (by kernel_rfl) (fun _ _ _ h => h) (by rfl) ?_ ?_
  rotate_left
  · intro w' hLat; change Below _ _ _ at hLat; go_simp <;> with_reducible rfl
  try simp only [Act.put, List.setIfInBounds_toArray, List.set_cons_zero, List.set_cons_succ, List.getElem_toArray, List.getElem_cons_zero, List.getElem_cons_succ]
  refine Seq.take_lat (i := 2) (v := ?_) rfl (by kernel_rfl) (by kernel_rfl) (by kernel_rfl) (fun _ _ _ h => h) (by rfl) ?_ ?_
  rotate_left
  · intro w' hLat; change Below _ _ _ at hLat; go_simp <;> with_reducible rfl
  try simp only [Act.put, List.setIfInBounds_toArray, List.set_cons_zero, List.set_cons_succ, List.getElem_toArray, List.getElem_cons_zero, List.getElem_cons_succ]
  refine Seq.pass_lat (i := 3) rfl (by kernel_rfl) (by kernel_rfl) (by kernel_rfl) (fun _ _ _ h => h) (by rfl) ?_
  try simp only [Act.put, List.setIfInBounds_toArray, List.set_cons_zero, List.set_cons_succ, List.getElem_toArray, List.getElem_cons_zero, List.getElem_cons_succ]
  refine Seq.pass_lat (i := 4) rfl (by kernel_rfl) (by kernel_rfl) (by kernel_rfl) (fun _ _ _ h => h) (by rfl) ?_
  try simp only [Act.put, List.setIfInBounds_toArray, List.set_cons_zero, List.set_cons_succ, List.getElem_toArray, List.getElem_cons_zero, List.getElem_cons_succ]
  refine Seq.pass_lat (i := 5) rfl (by kernel_rfl) (by kernel_rfl) (by kernel_rfl) (fun _ _ _ h => h) (by rfl) ?_
  try simp only [Act.put, List.setIfInBounds_toArray, List.set_cons_zero, List.set_cons_succ, List.getElem_toArray, List.getElem_cons_zero, List.getElem_cons_succ]
  refine Seq.pass_lat (i := 6) rfl (by kernel_rfl) (by kernel_rfl) (by kernel_rfl) (fun _ _ _ h => h) (by rfl) ?_
  try simp only [Act.put, List.setIfInBounds_toArray, List.set_cons_zero, List.set_cons_succ, List.getElem_toArray, List.getElem_cons_zero, List.getElem_cons_succ]
  refine Seq.pass_lat (i := 7) rfl (by kernel_rfl) (by kernel_rfl) (by kernel_rfl) (fun _ _ _ h => h) (by rfl) ?_
  try simp only [Act.put, List.setIfInBounds_toArray, List.set_cons_zero, List.set_cons_succ, List.getElem_toArray, List.getElem_cons_zero, List.getElem_cons_succ]
  refine Seq.take_lat (i := 8) (v := ?_) rfl (by kernel_rfl) (by kernel_rfl) (by kernel_rfl) (fun _ _ _ h => h) (by rfl) ?_ ?_
  rotate_left
  · intro w' hLat; change Below _ _ _ at hLat; go_simp <;> with_reducible rfl
  try simp only [Act.put, List.setIfInBounds_toArray, List.set_cons_zero, List.set_cons_succ, List.getElem_toArray, List.getElem_cons_zero, List.getElem_cons_succ]
  refine Seq.take_lat (i := 9) (v := ?_) rfl (by kernel_rfl) (by kernel_rfl) (by kernel_rfl) (fun _ _ _ h => h) (by rfl) ?_ ?_
  rotate_left
  · intro w' hLat; change Below _ _ _ at hLat; go_simp <;> with_reducible rfl
  try simp only [Act.put, List.setIfInBounds_toArray, List.set_cons_zero, List.set_cons_succ, List.getElem_toArray, List.getElem_cons_zero, List.getElem_cons_succ]
  refine Seq.pass_lat (i := 10) rfl (by kernel_rfl) (by kernel_rfl) (by kernel_rfl) (fun _ _ _ h => h) (by rfl) ?_
  try simp only [Act.put, List.setIfInBounds_toArray, List.set_cons_zero, List.set_cons_succ, List.getElem_toArray, List.getElem_cons_zero, List.getElem_cons_succ]
  refine Seq.pass_lat (i := 11) rfl (by kernel_rfl) (by kernel_rfl) (by kernel_rfl) (fun _ _ _ h => h) (by rfl) ?_
  try simp only [Act.put, List.setIfInBounds_toArray, List.set_cons_zero, List.set_cons_succ, List.getElem_toArray, List.getElem_cons_zero, List.getElem_cons_succ]
  refine Seq.take_lat (i := 12) (v := ?_) rfl (by kernel_rfl) (by kernel_rfl) (by kernel_rfl) (fun _ _ _ h => h) (by rfl) ?_ ?_
  rotate_left
  · intro w' hLat; change Below _ _ _ at hLat; go_simp <;> with_reducible rfl
  try simp only [Act.put, List.setIfInBounds_toArray, List.set_cons_zero, List.set_cons_succ, List.getElem_toArray, List.getElem_cons_zero, List.getElem_cons_succ]
  refine Seq.take_lat (i := 13) (v := ?_) rfl (by kernel_rfl) (by kernel_rfl) (by kernel_rfl) (fun _ _ _ h => h) (by rfl) ?_ ?_
  rotate_left
  · intro w' hLat; change Below _ _ _ at hLat; go_simp <;> with_reducible rfl
  try simp only [Act.put, List.setIfInBounds_toArray, List.set_cons_zero, List.set_cons_succ, List.getElem_toArray, List.getElem_cons_zero, List.getElem_cons_succ]
  refine Seq.pass_lat (i := 14) rfl (by kernel_rfl) (by kernel_rfl) (by kernel_rfl) (fun _ _ _ h => h) (by rfl) ?_
  try simp only [Act.put, List.setIfInBounds_toArray, List.set_cons_zero, List.set_cons_succ, List.getElem_toArray, List.getElem_cons_zero, List.getElem_cons_succ]
  refine Seq.pass_lat (i := 15) rfl (by kernel_rfl) (by kernel_rfl) (by kernel_rfl) (fun _ _ _ h => h) (by rfl) ?_
  try simp only [Act.put, List.setIfInBounds_toArray, List.set_cons_zero, List.set_cons_succ, List.getElem_toArray, List.getElem_cons_zero, List.getElem_cons_succ]
  refine Seq.take_lat (i := 16) (v := ?_) rfl (by kernel_rfl) (by kernel_rfl) (by kernel_rfl) (fun _ _ _ h => h) (by rfl) ?_ ?_
  rotate_left
  · intro w' hLat; change Below _ _ _ at hLat; go_simp <;> with_reducible rfl
  try simp only [Act.put, List.setIfInBounds_toArray, List.set_cons_zero, List.set_cons_succ, List.getElem_toArray, List.getElem_cons_zero, List.getElem_cons_succ]
  refine wpAnyH_done (by kernel_rfl) ?_ _
  go_wp2
  go_ret2
  exact ⟨rfl, below_to HC.out (below_to HB2.out.1 HX0.out)⟩
end Go.Proofs.YtnicgmimhgbcfaaGreatDoor
