/-
  What Places and New of package vault leave. And what follows it.
-/
import Derived.Test.YthbbijaikcmaeaaGreatDoorX34
namespace Go.Proofs.YthbbijaikcmaeaaGreatDoor
set_option maxRecDepth 100000
set_option linter.unusedVariables false
set_option maxRecDepth 100000
open Go.RowKit Go.Shelf Plain Go.Proofs.YthbbijaikcmaeaaGreatDoor.Shap.Plain
attribute [local go_sem] Oper.semAt_some
theorem exec_ltI {o : Oper} {ρ : Operand → Value} {w' : World} (x y : Operand) (ty : TypeId) (ho : o.op = .binOp .lss 3 x y ty) (a b : Int) (c : Bool) (hc : decide (a < b) = c) (hx : ρ x = .int .i64 a) (hy : ρ y = .int .i64 b) :
    (execOp ρ o).run Tryz.prog w' = .ok (.value (.bool c)) w' := by
  subst hc
  unfold execOp
  simp [ho, hx, hy, eqGuard, binOp, Op.intCmp]
theorem exec_eqUc {o : Oper} {ρ : Operand → Value} {w' : World} (x y : Operand) (ty : TypeId) (ho : o.op = .binOp .eql 34 x y ty) (a b : Int) (c : Bool) (hc : (a == b) = c) (hx : ρ x = .int .u64 a) (hy : ρ y = .int .u64 b) :
    (execOp ρ o).run Tryz.prog w' = .ok (.value (.bool c)) w' := by
  subst hc
  unfold execOp
  simp [ho, hx, hy, eqGuard, binOp, Op.intCmp]
theorem exec_gtU {o : Oper} {ρ : Operand → Value} {w' : World} (x y : Operand) (ty : TypeId) (ho : o.op = .binOp .gtr 34 x y ty) (a b : Int) (c : Bool) (hc : decide (b < a) = c) (hx : ρ x = .int .u64 a) (hy : ρ y = .int .u64 b) :
    (execOp ρ o).run Tryz.prog w' = .ok (.value (.bool c)) w' := by
  subst hc
  unfold execOp
  simp [ho, hx, hy, eqGuard, binOp, Op.intCmp]
def vq (p : Value) (K : List Int) (n : Int) (s : Value) (r : Rf) (x y : Int) : List Value := p :: (K.map (Value.int .u8) ++ (.int .u64 n :: s :: (rc r ++ [.int .u64 x, .int .u64 y])))
theorem vq_len (p : Value) (K : List Int) (n : Int) (s : Value) (r : Rf) (x y : Int) (hK : K.length = 32) (hr : OkR r) : (vq p K n s r x y).length = 70 := by simp [vq, hK, rc_len hr]
theorem fill_val (place : Nat → Option (Nat × Nat)) (cells : Array Value) (i off : Nat) (v : Value) (hv : v.cells = #[v]) (rest : List (Nat × Value)) (hp : place i = some (off, 1)) (hf : off + 1 ≤ cells.size) :
    Instr.fill place cells ((i, v) :: rest) = Instr.fill place (cells.setIfInBounds off v) rest := by
  rw [Instr.fill, hp]
  simp only [hv]
  rw [if_neg (by simp; omega)]
  rfl
theorem vq_key (p : Value) (K L : List Int) (n : Int) (s : Value) (r : Rf) (x y : Int) (hK : K.length = 32) (hL : L.length = 32) : splice (vq p K n s r x y) 1 (L.map (Value.int .u8)) = vq p L n s r x y := by
  simp [splice, vq, hL, hK]
theorem vq_n (p : Value) (K : List Int) (n m : Int) (s : Value) (r : Rf) (x y : Int) (hK : K.length = 32) : (vq p K n s r x y).set 33 (.int .u64 m) = vq p K m s r x y := by
  simp [vq, hK]
theorem vq_s (p : Value) (K : List Int) (n : Int) (s t : Value) (r : Rf) (x y : Int) (hK : K.length = 32) : splice (vq p K n s r x y) 34 [t] = vq p K n t r x y := by
  simp [splice, vq, List.take_append, List.drop_append, hK]
  rw [List.take_of_length_le (by simp [hK]), List.drop_of_length_le (by simp [hK])]
  rfl
theorem vq_r (p : Value) (K : List Int) (n : Int) (s : Value) (r t : Rf) (x y : Int) (hK : K.length = 32) (hr : OkR r) (ht : OkR t) : splice (vq p K n s r x y) 35 (rc t) = vq p K n s t x y := by
  simp [splice, vq, List.take_append, List.drop_append, hK, rc_len hr, rc_len ht]
  rw [List.take_of_length_le (by simp [hK]), List.drop_of_length_le (by simp [hK])]
  rfl
theorem vq_x (p : Value) (K : List Int) (n : Int) (s : Value) (r : Rf) (x y z : Int) (hK : K.length = 32) (hr : OkR r) : (vq p K n s r x y).set 68 (.int .u64 z) = vq p K n s r z y := by
  simp [vq, hK, rc_len hr]
theorem vq_y (p : Value) (K : List Int) (n : Int) (s : Value) (r : Rf) (x y z : Int) (hK : K.length = 32) (hr : OkR r) : (vq p K n s r x y).set 69 (.int .u64 z) = vq p K n s r x z := by
  simp [vq, hK, rc_len hr]
theorem builtV (parts : List (Nat × Value)) : Tryz.prog.built 79 parts = Instr.fill (fun i => #[(0, 1), (1, 32), (33, 1), (34, 1), (35, 33), (68, 1), (69, 1)][i]?) (vq (.pointer none) z32 0 (.slice none 0 0) zr 0 0).toArray parts := by kernel_rfl
theorem built_V (D : Nat) (v : Vt) (sa : Option Addr) (sc : Nat) (ok : v.Ok) : Tryz.prog.built 79 [(0, .pointer (some ⟨D, 0, none⟩)), (1, .agg (u8s v.key)), (2, .int .u64 (v.n : Int)), (3, .agg #[.slice sa (wid v.n).length sc]), (4, .agg (ra v.top)), (5, .int .u64 v.nx), (6, .int .u64 v.lim)] = some (vcs D v sa sc).toArray := by
  have hz : z32.length = 32 := len_z32
  have hk := ok.key
  have ht := ok.top
  have hu : (u8s v.key).toList = v.key.map (Value.int .u8) := by simp [u8s]
  have hra : (ra v.top).toList = rc v.top := by simp [ra]
  rw [builtV, fill_val _ _ 0 0 _ rfl _ rfl (by rw [List.size_toArray, vq_len _ _ _ _ _ _ _ hz okR_zr]; omega)]
  rw [List.setIfInBounds_toArray, show (vq (.pointer none) z32 0 (.slice none 0 0) zr 0 0).set 0 (.pointer (some ⟨D, 0, none⟩)) = vq (.pointer (some ⟨D, 0, none⟩)) z32 0 (.slice none 0 0) zr 0 0 from rfl]
  rw [fill_step _ _ 1 1 32 _ _ rfl (by rw [size_u8s, hk]) (by rw [List.size_toArray, vq_len _ _ _ _ _ _ _ hz okR_zr]; omega), hu, vq_key _ _ _ _ _ _ _ _ hz hk]
  rw [fill_one _ _ 2 33 _ _ _ rfl (by rw [List.size_toArray, vq_len _ _ _ _ _ _ _ hk okR_zr]; omega), List.setIfInBounds_toArray, vq_n _ _ _ _ _ _ _ _ hk]
  rw [fill_step _ _ 3 34 1 _ _ rfl rfl (by rw [List.size_toArray, vq_len _ _ _ _ _ _ _ hk okR_zr]; omega), show (#[Value.slice sa (wid v.n).length sc]).toList = [.slice sa (wid v.n).length sc] from rfl, vq_s _ _ _ _ _ _ _ _ hk]
  rw [fill_step _ _ 4 35 33 _ _ rfl (size_ra ht) (by rw [List.size_toArray, vq_len _ _ _ _ _ _ _ hk okR_zr]; omega), hra, vq_r _ _ _ _ _ _ _ _ hk okR_zr ht]
  rw [fill_one _ _ 5 68 _ _ _ rfl (by rw [List.size_toArray, vq_len _ _ _ _ _ _ _ hk ht]; omega), List.setIfInBounds_toArray, vq_x _ _ _ _ _ _ _ _ hk ht]
  rw [fill_one _ _ 6 69 _ _ _ rfl (by rw [List.size_toArray, vq_len _ _ _ _ _ _ _ hk ht]; omega), List.setIfInBounds_toArray, vq_y _ _ _ _ _ _ _ _ hk ht, Instr.fill]
  rfl
set_option maxHeartbeats 4000000 in
theorem vnew_ok {w0 w : World} {D : Nat} {fp : Nat → Prop} {d : Disk.Dk} (C : Disk.Cx w0 w D fp d) (K : List Int) (hK : K.length = 32 ∧ Byt K) (n : Nat) (h1 : 1 ≤ n) (h2 : n ≤ 1024) (r : Rf) (hr : OkR r) (nx lim : Int) (hn : 0 ≤ nx ∧ nx ≤ 18446744073709551615) (hl : 0 ≤ lim ∧ lim ≤ 18446744073709551615) (hT : Dig.Tabs w0) (hT2 : Seal.Tab w0) (g1 : 2 * off n (topL n + 1) ≤ d.n) (g2 : nx ≠ 0) (g3 : lim ≤ 9223372036854775807) :
    Calls Tryz.prog 9 #[.pointer (some ⟨D, 0, none⟩), .agg (u8s K), .int .i64 n, .agg (ra r), .int .u64 nx, .int .u64 lim] w fun e w' => ∃ V fp' sa sc, e = .returned (.tuple #[.pointer (some ⟨V, 0, none⟩), .int .i64 0]) ∧ VC w0 w' V D fp' ⟨K, n, r, nx, lim⟩ d sa sc ∧ Below w.heap.size w w' ∧ w.heap.size ≤ V ∧ ∀ k, fp' k → fp k := by
  have HN : Box (∀ x, Below w.heap.size w x → Calls Tryz.prog 23 #[.int .i64 n] x _) := ⟨fun x _ => Shap.new_ok2 n x h1 h2⟩
  obtain ⟨S, hS⟩ : ∃ S, w.heap.size = S := ⟨_, rfl⟩
  obtain ⟨w1, hw1⟩ : ∃ w1, (w.alloc (.cells (u8s K) 23)).alloc (.cells (ra r) 36) = w1 := ⟨_, rfl⟩
  have hb1 : Below w.heap.size w w1 := by rw [← hw1]; exact ((Below.refl _ _).alloc (Nat.le_refl _) _).alloc (by simp) _
  have k1 : w1.heap[S]? = some (.cells (u8s K) 23 (0, 0)) := by rw [← hw1]; exact al_old (al_at hS)
  have k2 : w1.heap[S + 1]? = some (.cells (ra r) 36 (0, 0)) := by rw [← hw1]; exact al_at (by simp [hS])
  have hsz : w1.heap.size = S + 2 := by rw [← hw1]; simp [hS]
  obtain ⟨pl, hpl⟩ : ∃ pl, 2 * off n (topL n + 1) = pl := ⟨_, rfl⟩
  have HP : Box (∀ (a : Option Addr) (cap : Nat) (x : World), Shap.Ints x a (wid n).length (wid n) → Calls Tryz.prog 25 #[.agg #[.slice a (wid n).length cap]] x fun e w' => e = .returned (.int .i64 (pl : Nat)) ∧ Below x.heap.size x w') := ⟨fun a cap x hx => by rw [← hpl]; exact places_any n a cap x h1 h2 hx⟩
  have HD7 : Box (decide ((d.n : Int) < (pl : Int)) = false) := ⟨by simp; omega⟩
  have HD11 : Box ((nx == 0) = false) := ⟨by simpa using g2⟩
  have HD15 : Box (decide (9223372036854775807 < lim) = false) := ⟨by simp; omega⟩
  have HC : Box (Disk.Cx w0 w D fp d ∧ Below w.heap.size w w1 ∧ w1.heap.size = S + 2 ∧ w1.heap[S]? = some (.cells (u8s K) 23 (0, 0)) ∧ w1.heap[S + 1]? = some (.cells (ra r) 36 (0, 0)) ∧ w.heap.size = S) := ⟨C, hb1, hsz, k1, k2, hS⟩
  have HCS : Box (∀ x, Below w.heap.size w x → Calls Tryz.prog 24 #[.pointer (some ⟨D, 0, none⟩)] x fun e w' => e = .returned (.int .i64 (d.n : Int)) ∧ Below x.heap.size x w') := ⟨fun x hx => (Disk.size_cx (C.step hx)).mono (fun e w' h => ⟨h.1, by rw [← h.2]; exact Below.refl _ _⟩)⟩
  have HSN : Box (w.heap.size = S) := ⟨hS⟩
  have HWL : Box (IntKind.u64.wrap (n : Int) = (n : Int)) := ⟨by rw [IntKind.wrap_u64]; omega⟩
  have ok : (⟨K, n, r, nx, lim⟩ : Vt).Ok := ⟨hK.1, hK.2, h1, h2, hr, hn, ⟨hl.1, g3⟩⟩
  have HOK : Box _ := ⟨ok⟩
  have HGO : Box (2 * off n (topL n + 1) ≤ d.n ∧ Dig.Tabs w0 ∧ Seal.Tab w0) := ⟨by omega, hT, hT2⟩
  have HIL : Box ((Tryz.prog.info? 23).map (·.size) = some (K.map (Value.int .u8)).length ∧ (Tryz.prog.info? 36).map (·.size) = some (rc r).length) := ⟨by rw [List.length_map, hK.1]; exact infoSum, by rw [rc_len hr]; exact infoRef⟩
  clear C hb1 hsz k1 k2 hS hpl g1 g2 g3 ok h1 h2 hr hn hl hT hT2 hK
  go_enter Tryz.func9, Tryz.ntmps9
  go_upto_region 1 with fail
  simp only [HSN.out]
  go_upto_region 2 with (first
    | (go_at_call 23; refine (HN.out w1 HC.out.2.1).mono ?_; rintro e x1 ⟨a, sc, rfl, hi, _, hb, hfr⟩; have HB : Box (Below w1.heap.size w1 x1 ∧ Shap.Ints x1 a (wid n).length (wid n) ∧ ∀ ad, a = some ad → w1.heap.size ≤ ad.block) := ⟨hb, hi, hfr⟩; clear hb hi hfr)
    | (refine atAlloc _ ?_; refine wpList_run rfl _ _ (exec_alloc 74 rfl _ infoShp2) ?_)
    | (refine atStore _ ?_; refine wpList_newRow x1 #[.slice none 0 0] #[.slice a (wid n).length sc] infoShp rfl (by simp [Value.oneCell']) rfl _ _ rfl rfl rfl rfl ?_; intro x2 h2 hb2; have HB2 : Box (Below w1.heap.size w1 x2 ∧ Shap.Ints x2 a (wid n).length (wid n) ∧ x2.heap[x1.heap.size]? = some (.cells #[.slice a (wid n).length sc] 74 (0, 0))) := ⟨below_to HB.out.1 hb2, HB.out.2.1.below hb2, h2⟩; clear hb2 h2))
  obtain ⟨Sn, hSn⟩ : ∃ Sn, x1.heap.size = Sn := ⟨_, rfl⟩
  rw [hSn] at HB2 ⊢
  have hbw : ∀ x, Below x2.heap.size x2 x → Below w.heap.size w x := fun x hx => below_to HC.out.2.1 (below_to HB2.out.1 hx)
  have CSZ : Box (∀ x, Below x2.heap.size x2 x → Calls Tryz.prog 24 #[.pointer (some ⟨D, 0, none⟩)] x fun e w' => e = .returned (.int .i64 (d.n : Int)) ∧ Below x.heap.size x w') := ⟨fun x hx => HCS.out x (hbw x hx)⟩
  have CPL : Box (∀ x, Below x2.heap.size x2 x → Calls Tryz.prog 25 #[.agg #[.slice a (wid n).length sc]] x fun e w' => e = .returned (.int .i64 (pl : Nat)) ∧ Below x.heap.size x w') := ⟨fun x hx => HP.out a sc x (HB2.out.2.1.below hx)⟩
  have HLS : Box (∀ x, Below x2.heap.size x2 x → x.rangeAt Sn 0 [.slice a (wid n).length sc]) := ⟨fun x hx => fun j y hy => by
    rw [cell_of_row _ _ _ _ _ _ ((hx.block Sn (Array.getElem?_eq_some_iff.1 HB2.out.2.2).1).trans HB2.out.2.2)]
    simpa using hy⟩
  clear hbw hSn
  refine Seq.begin_any (by kernel_rfl) (fun wd hd => ?_)
  have HX0 : Box (Below x2.heap.size x2 wd) := ⟨hd⟩
  clear hd
  refine Seq.take_lat (i := 0) (v := ?_) rfl (by kernel_rfl) (by kernel_rfl) (by kernel_rfl) (fun _ _ _ h => h) (by rfl) ?_ ?_
  rotate_left
  · intro w' hLat; change Below _ _ _ at hLat; go_simp <;> with_reducible rfl
  try simp only [Act.put, List.setIfInBounds_toArray, List.set_cons_zero, List.set_cons_succ, List.getElem_toArray, List.getElem_cons_zero]
  refine Seq.take_lat (i := 1) (v := ?_) rfl (by kernel_rfl) (by kernel_rfl) (by kernel_rfl) (fun _ _ _ h => h) (by rfl) ?_ ?_
  rotate_left
  · intro w' hLat; change Below _ _ _ at hLat; go_simp <;> with_reducible rfl
  try simp only [Act.put, List.setIfInBounds_toArray, List.set_cons_zero, List.set_cons_succ, List.getElem_toArray, List.getElem_cons_zero, List.getElem_cons_succ]
  refine Seq.take_lat (i := 2) (v := ?_) rfl (by kernel_rfl) (by kernel_rfl) (by kernel_rfl) (fun _ _ _ h => h) (by rfl) ?_ ?_
  rotate_left
  · intro w' hLat; change Below _ _ _ at hLat; go_simp <;> with_reducible rfl
  try simp only [Act.put, List.setIfInBounds_toArray, List.set_cons_zero, List.set_cons_succ, List.getElem_toArray, List.getElem_cons_zero, List.getElem_cons_succ]
  refine Seq.take_lat (i := 3) (v := ?_) rfl (by kernel_rfl) (by kernel_rfl) (by kernel_rfl) (fun _ _ _ h => h) (by rfl) ?_ ?_
  rotate_left
  · intro w' hLat; change Below _ _ _ at hLat; go_simp <;> with_reducible rfl
  try simp only [Act.put, List.setIfInBounds_toArray, List.set_cons_zero, List.set_cons_succ, List.getElem_toArray, List.getElem_cons_zero, List.getElem_cons_succ]
  refine Seq.take_lat (i := 5) (v := .agg #[.slice a (wid n).length sc]) rfl (by kernel_rfl) (by kernel_rfl) (by kernel_rfl) (fun _ _ _ h => h) (by rfl) (fun w' hLat => exec_load_mid 74 _ _ rfl Tryz.underlying74 rfl Sn 0 rfl [.slice a (wid n).length sc] infoShp (HLS.out w' (below_to HX0.out hLat))) ?_
  try simp only [Act.put, List.setIfInBounds_toArray, List.set_cons_zero, List.set_cons_succ, List.getElem_toArray, List.getElem_cons_zero, List.getElem_cons_succ]
  refine Seq.only_lat (i := 4) rfl (by kernel_rfl) (fun KK hK => ?_)
  rw [if_pos (by rfl)]
  go_simp
  refine Calls.mono (CSZ.out wd HX0.out) ?_
  rintro e x4 ⟨rfl, hb⟩
  have HX4 : Box (Below x2.heap.size x2 x4) := ⟨below_to HX0.out hb⟩
  refine hK.out _ _ hb ?_
  clear hb
  clear hK KK
  try simp only [Act.put, List.setIfInBounds_toArray, List.set_cons_zero, List.set_cons_succ, List.getElem_toArray, List.getElem_cons_zero, List.getElem_cons_succ]
  refine Seq.only_lat (i := 6) rfl (by kernel_rfl) (fun KK hK => ?_)
  rw [if_pos (by rfl)]
  go_simp
  refine Calls.mono (CPL.out x4 HX4.out) ?_
  rintro e x5 ⟨rfl, hb⟩
  have HX5 : Box (Below x2.heap.size x2 x5) := ⟨below_to HX4.out hb⟩
  refine hK.out _ _ hb ?_
  clear hb
  clear hK KK
  try simp only [Act.put, List.setIfInBounds_toArray, List.set_cons_zero, List.set_cons_succ, List.getElem_toArray, List.getElem_cons_zero, List.getElem_cons_succ]
  refine Seq.take_lat (i := 7) (v := .bool false) rfl (by kernel_rfl) (by kernel_rfl) (by kernel_rfl) (fun _ _ _ h => h) (by rfl) (fun w' hLat => exec_ltI (.tmp 25) (.tmp 27) _ rfl (d.n : Int) (pl : Int) _ HD7.out rfl rfl) ?_
  try simp only [Act.put, List.setIfInBounds_toArray, List.set_cons_zero, List.set_cons_succ, List.getElem_toArray, List.getElem_cons_zero, List.getElem_cons_succ]
  refine Seq.take_lat (i := 8) (v := ?_) rfl (by kernel_rfl) (by kernel_rfl) (by kernel_rfl) (fun _ _ _ h => h) (by rfl) ?_ ?_
  rotate_left
  · intro w' hLat; change Below _ _ _ at hLat; go_simp <;> with_reducible rfl
  try simp only [Act.put, List.setIfInBounds_toArray, List.set_cons_zero, List.set_cons_succ, List.getElem_toArray, List.getElem_cons_zero, List.getElem_cons_succ]
  refine Seq.take_lat (i := 9) (v := ?_) rfl (by kernel_rfl) (by kernel_rfl) (by kernel_rfl) (fun _ _ _ h => h) (by rfl) ?_ ?_
  rotate_left
  · intro w' hLat; change Below _ _ _ at hLat; go_simp <;> with_reducible rfl
  try simp only [Act.put, List.setIfInBounds_toArray, List.set_cons_zero, List.set_cons_succ, List.getElem_toArray, List.getElem_cons_zero, List.getElem_cons_succ]
  refine Seq.take_lat (i := 10) (v := ?_) rfl (by kernel_rfl) (by kernel_rfl) (by kernel_rfl) (fun _ _ _ h => h) (by rfl) ?_ ?_
  rotate_left
  · intro w' hLat; change Below _ _ _ at hLat; go_simp <;> with_reducible rfl
  try simp only [Act.put, List.setIfInBounds_toArray, List.set_cons_zero, List.set_cons_succ, List.getElem_toArray, List.getElem_cons_zero, List.getElem_cons_succ]
  refine Seq.take_lat (i := 11) (v := .bool false) rfl (by kernel_rfl) (by kernel_rfl) (by kernel_rfl) (fun _ _ _ h => h) (by rfl) (fun w' hLat => exec_eqUc (.tmp 31) (.const (.int .u64 0)) _ rfl nx 0 _ HD11.out rfl rfl) ?_
  try simp only [Act.put, List.setIfInBounds_toArray, List.set_cons_zero, List.set_cons_succ, List.getElem_toArray, List.getElem_cons_zero, List.getElem_cons_succ]
  refine Seq.take_lat (i := 12) (v := ?_) rfl (by kernel_rfl) (by kernel_rfl) (by kernel_rfl) (fun _ _ _ h => h) (by rfl) ?_ ?_
  rotate_left
  · intro w' hLat; change Below _ _ _ at hLat; go_simp <;> with_reducible rfl
  try simp only [Act.put, List.setIfInBounds_toArray, List.set_cons_zero, List.set_cons_succ, List.getElem_toArray, List.getElem_cons_zero, List.getElem_cons_succ]
  refine Seq.take_lat (i := 13) (v := ?_) rfl (by kernel_rfl) (by kernel_rfl) (by kernel_rfl) (fun _ _ _ h => h) (by rfl) ?_ ?_
  rotate_left
  · intro w' hLat; change Below _ _ _ at hLat; go_simp <;> with_reducible rfl
  try simp only [Act.put, List.setIfInBounds_toArray, List.set_cons_zero, List.set_cons_succ, List.getElem_toArray, List.getElem_cons_zero, List.getElem_cons_succ]
  refine Seq.take_lat (i := 14) (v := ?_) rfl (by kernel_rfl) (by kernel_rfl) (by kernel_rfl) (fun _ _ _ h => h) (by rfl) ?_ ?_
  rotate_left
  · intro w' hLat; change Below _ _ _ at hLat; go_simp <;> with_reducible rfl
  try simp only [Act.put, List.setIfInBounds_toArray, List.set_cons_zero, List.set_cons_succ, List.getElem_toArray, List.getElem_cons_zero, List.getElem_cons_succ]
  refine Seq.take_lat (i := 15) (v := .bool false) rfl (by kernel_rfl) (by kernel_rfl) (by kernel_rfl) (fun _ _ _ h => h) (by rfl) (fun w' hLat => exec_gtU (.tmp 35) (.const (.int .u64 9223372036854775807)) _ rfl lim 9223372036854775807 _ HD15.out rfl rfl) ?_
  try simp only [Act.put, List.setIfInBounds_toArray, List.set_cons_zero, List.set_cons_succ, List.getElem_toArray, List.getElem_cons_zero, List.getElem_cons_succ]
  refine Seq.take_lat (i := 16) (v := ?_) rfl (by kernel_rfl) (by kernel_rfl) (by kernel_rfl) (fun _ _ _ h => h) (by rfl) ?_ ?_
  rotate_left
  · intro w' hLat; change Below _ _ _ at hLat; go_simp <;> with_reducible rfl
  try simp only [Act.put, List.setIfInBounds_toArray, List.set_cons_zero, List.set_cons_succ, List.getElem_toArray, List.getElem_cons_zero, List.getElem_cons_succ]
  refine wpAnyH_done (by kernel_rfl) ?_ _
  have b15 : Below w1.heap.size w1 x5 := below_to HB2.out.1 HX5.out
  have hsz := HC.out.2.2.1
  have HK5 : Box (x5.rangeAt S 0 (K.map (Value.int .u8))) := ⟨fun j y hy => by
    rw [cell_of_row _ _ _ _ _ _ ((b15.block S (by omega)).trans HC.out.2.2.2.1), Nat.zero_add]
    simpa [u8s] using hy⟩
  have HR5 : Box (x5.rangeAt (S + 1) 0 (rc r)) := ⟨fun j y hy => by
    rw [cell_of_row _ _ _ _ _ _ ((b15.block (S + 1) (by omega)).trans HC.out.2.2.2.2.1), Nat.zero_add]
    simpa [ra] using hy⟩
  have HS5 : Box (x5.heap[Sn]? = some (.cells #[.slice a (wid n).length sc] 74 (0, 0))) := ⟨(HX5.out.block Sn (Array.getElem?_eq_some_iff.1 HB2.out.2.2).1).trans HB2.out.2.2⟩
  have HVV : Box (Tryz.prog.built 79 [(0, .pointer (some ⟨D, 0, none⟩)), (1, .agg (u8s K)), (2, .int .u64 (n : Int)), (3, .agg #[.slice a (wid n).length sc]), (4, .agg (ra r)), (5, .int .u64 nx), (6, .int .u64 lim)] = some (vcs D ⟨K, n, r, nx, lim⟩ a sc).toArray) := ⟨built_V D ⟨K, n, r, nx, lim⟩ a sc HOK.out⟩
  have hwl := HWL.out
  have HB5 : Box (Below w1.heap.size w1 x5) := ⟨b15⟩
  clear b15 hsz HD7 HD11 HD15 CSZ CPL HLS HX0 HX4 HWL
  go_wp2_with (first
    | (refine atLoad 23 ?_; refine wpList_ldMid rfl 23 _ _ rfl Tryz.underlying23 rfl S 0 rfl (K.map (Value.int .u8)) HIL.out.1 HK5.out ?_)
    | (refine atLoad 36 ?_; refine wpList_ldMid rfl 36 _ _ rfl Tryz.underlying36 rfl (S + 1) 0 rfl (rc r) HIL.out.2 HR5.out ?_)
    | (refine atLoad 74 ?_; refine Shap.wpList_ldS rfl _ rfl Sn (.slice a (wid n).length sc) rfl HS5.out ?_)
    | (refine atBuild 79 ?_; refine wpList_run rfl _ _ (exec_built 79 [(0, .tmp 38), (1, .tmp 39), (2, .tmp 41), (3, .tmp 42), (4, .tmp 43), (5, .tmp 44), (6, .tmp 45)] rfl [(0, .pointer (some ⟨D, 0, none⟩)), (1, .agg (u8s K)), (2, .int .u64 (n : Int)), (3, .agg #[.slice a (wid n).length sc]), (4, .agg (ra r)), (5, .int .u64 nx), (6, .int .u64 lim)] rfl _ HVV.out) ?_))
  go_ret2
  have b05 : Below w.heap.size w x5 := below_to HC.out.2.1 HB5.out
  obtain ⟨x6, hx6⟩ : ∃ x6, x5.alloc (.cells (vcs D ⟨K, n, r, nx, lim⟩ a sc).toArray 79) = x6 := ⟨_, rfl⟩
  have b56 : Below x5.heap.size x5 x6 := by rw [← hx6]; exact (Below.refl _ _).alloc (Nat.le_refl _) _
  have b06 : Below w.heap.size w x6 := below_to b05 b56
  have hrow : x6.heap[x5.heap.size]? = some (.cells (vcs D ⟨K, n, r, nx, lim⟩ a sc).toArray 79 (0, 0)) := by rw [← hx6]; exact al_at rfl
  obtain ⟨fp'', c', hs, hcs⟩ := tight (HC.out.1.step b06)
  have hi5 := HB2.out.2.1.below HX5.out
  have hz := HC.out.2.2.1
  have hw := HC.out.2.2.2.2.2
  have h05 := b05.size
  have h00 := HC.out.1.bel.size
  refine ⟨x5.heap.size, fp'', a, sc, rfl, ?_, by rw [hx6]; exact b06, h05, hs⟩
  rw [hx6]
  refine ⟨c', hrow, hi5.below b56, by omega, fun hf => by have := HC.out.1.hi _ (hs _ hf); omega, fun ad e => ⟨fun hf => by have := HC.out.1.hi _ (hs _ hf); have := HB.out.2.2 ad e; omega, ?_, by have := HB.out.2.2 ad e; omega⟩, hcs, HOK.out, HGO.out.1, HGO.out.2.1, HGO.out.2.2⟩
  have := ints_lt hi5 (wid_pos _) ad e
  omega
end Go.Proofs.YthbbijaikcmaeaaGreatDoor
namespace Go.Proofs.YthbbijaikcmaeaaGreatDoor
set_option maxRecDepth 100000
set_option linter.unusedVariables false
open Go.RowKit Plain Go.Proofs.YthbbijaikcmaeaaGreatDoor.Shap.Plain
def LM (M : List Im) : List (Int × List Int) := M.map (fun m => (m.blk, m.bs))
def lastI : List Im → Nat → Option Im
  | [], _ => none
  | m :: M, j => match lastI M j with
    | some x => some x
    | none => if m.blk = (j : Int) then some m else none
theorem lastI_mem : ∀ (M : List Im) (j : Nat) (m : Im), lastI M j = some m → m ∈ M ∧ m.blk = (j : Int)
  | [], j, m, h => by cases h
  | x :: M, j, m, h => by
    rw [lastI] at h
    split at h
    · rename_i y hy
      cases h
      have := lastI_mem M j m hy
      exact ⟨List.mem_cons_of_mem _ this.1, this.2⟩
    · split at h
      · rename_i hb
        cases h
        exact ⟨List.mem_cons_self, hb⟩
      · cases h
theorem lastI_some : ∀ (M : List Im) (j : Nat) (m : Im), m ∈ M → m.blk = (j : Int) → (lastI M j).isSome = true
  | [], j, m, h, _ => by cases h
  | x :: M, j, m, h, hb => by
    rw [lastI]
    split
    · rfl
    · rename_i hn
      rcases List.mem_cons.1 h with e | e
      · subst e
        rw [if_pos hb]; rfl
      · have := lastI_some M j m e hb
        rw [hn] at this
        cases this
theorem lastB_I : ∀ (M : List Im) (j : Nat), lastB (LM M) j = (lastI M j).map (·.bs)
  | [], j => rfl
  | m :: M, j => by
    have ih := lastB_I M j
    show lastB ((m.blk, m.bs) :: LM M) j = _
    rw [lastB, lastI, ih]
    cases hI : lastI M j with
    | some x => rfl
    | none =>
      simp only [Option.map_none]
      split <;> rfl
theorem fB_fold : ∀ (M : List Im) (f : Int → Option Value) (j : Nat), (M.foldl (fun f m => fput f m.blk (.slice m.ba m.bl m.bc)) f) (j : Int) = match lastI M j with
    | some m => some (.slice m.ba m.bl m.bc)
    | none => f (j : Int)
  | [], f, j => rfl
  | m :: M, f, j => by
    rw [List.foldl_cons, fB_fold M, lastI]
    cases hI : lastI M j with
    | some x => rfl
    | none =>
      simp only [fput]
      by_cases e : m.blk = (j : Int)
      · rw [if_pos e, if_pos e.symm]
      · rw [if_neg e, if_neg (fun h => e h.symm)]
theorem fB_last (M : List Im) (j : Nat) : fB M (j : Int) = (lastI M j).map (fun m => .slice m.ba m.bl m.bc) := by
  rw [fB, fB_fold]
  cases lastI M j <;> rfl
theorem its_len (g : Nat → Option (List Int)) (n T : Nat) : ∀ k, (itsTo g n T k).length ≤ k
  | 0 => by simp [itsTo]
  | k + 1 => by
    have := its_len g n T k
    rw [itsTo, List.length_append]
    split <;> simp <;> omega
theorem nds_len (n lv : Nat) : ∀ its : List (Nat × Nat), (nds n lv its).length ≤ (its.filter (fun p => decide (p.1 = lv + 1))).length
  | [] => by simp [nds]
  | p :: its => by
    have ih := nds_len n lv its
    unfold nds at ih ⊢
    rw [List.filterMap_cons, List.filter_cons]
    by_cases h : p.1 = lv + 1 ∧ Ok2 n p
    · rw [dif_pos h, if_pos (by simpa using h.1)]
      simp only [List.length_cons]
      omega
    · rw [dif_neg h]
      by_cases hq : p.1 = lv + 1
      · rw [if_pos (by simpa using hq)]
        exact Nat.le_trans ih (Nat.le_succ _)
      · rw [if_neg (by simpa using hq)]
        exact ih
theorem dnL_len (n : Nat) (its : List (Nat × Nat)) : ∀ lv, (dnL n its lv).length ≤ (its.filter (fun p => decide (p.1 ≤ lv))).length
  | 0 => by simp [dnL]
  | lv + 1 => by
    have ih := dnL_len n its lv
    have h1 := nds_len n lv its
    rw [dnL, List.length_append]
    have h2 : ∀ l : List (Nat × Nat), (l.filter (fun p => decide (p.1 = lv + 1))).length + (l.filter (fun p => decide (p.1 ≤ lv))).length ≤ (l.filter (fun p => decide (p.1 ≤ lv + 1))).length := fun l => by
      induction l with
      | nil => simp
      | cons p l ihl =>
        simp only [List.filter_cons]
        by_cases a : p.1 = lv + 1
        · rw [if_pos (by simpa using a), if_neg (by simp; omega), if_pos (by simp; omega)]
          simp only [List.length_cons]; omega
        · by_cases b : p.1 ≤ lv
          · rw [if_neg (by simpa using a), if_pos (by simpa using b), if_pos (by simp; omega)]
            simp only [List.length_cons]; omega
          · rw [if_neg (by simpa using a), if_neg (by simpa using b), if_neg (by simp; omega)]
            exact ihl
    have := h2 its
    omega
theorem div_wd (n : Nat) : ∀ (l j : Nat), j < n → j / 4 ^ l < wd n l
  | 0, j, h => by simpa [wd] using h
  | l + 1, j, h => by
    have ih := div_wd n l j h
    rw [wd, Nat.pow_succ, ← Nat.div_div_eq_div_mul]
    omega
theorem itm_of (n : Nat) (h1 : 1 ≤ n) (h2 : n ≤ 1024) (M : List Im) (hM : ∀ m ∈ M, 0 ≤ m.blk ∧ m.blk < (n : Int)) : Itm n M (itsTo (lastB (LM M)) n (topL n) (off n (topL n + 1))) (lastB (LM M)) := by
  have hT := topL_bd n h1 h2
  have ho := off_le n h1 h2
  have hsome : ∀ j : Nat, (lastB (LM M) j).isSome = true ↔ ∃ m ∈ M, m.blk = (j : Int) := fun j => by
    rw [lastB_I]
    constructor
    · intro h
      cases hI : lastI M j with
      | none => rw [hI] at h; cases h
      | some m => exact ⟨m, lastI_mem M j m hI⟩
    · rintro ⟨m, hm, e⟩
      have := lastI_some M j m hm e
      cases hI : lastI M j with
      | none => rw [hI] at this; cases this
      | some m => rfl
  have hok : ∀ p ∈ itsTo (lastB (LM M)) n (topL n) (off n (topL n + 1)), Ok2 n p := fun p hp => by
    obtain ⟨l, i⟩ := p
    obtain ⟨a, b⟩ := (itsTo_mem _ n (topL n) l i).1 hp
    obtain ⟨j, hj, _, e⟩ := (wrt_iff _ n l i).1 b
    exact ⟨a, by rw [← e]; exact div_wd n l j hj⟩
  have hlen := its_len (lastB (LM M)) n (topL n) (off n (topL n + 1))
  refine ⟨hok, ?_, by omega, ?_, fun p hp e => ?_, fun p hp e => ?_⟩
  · refine rise_eq _ _ (compact_rise _) ?_ (fun x => ?_)
    · unfold itI
      rw [List.pairwise_map]
      exact (itsTo_ord _ n (topL n) _ (Nat.le_refl _)).imp (fun h => by exact_mod_cast h)
    · rw [compact_mem]
      unfold pths itI
      simp only [List.mem_flatten, List.mem_map]
      constructor
      · rintro ⟨L, ⟨m, hm, rfl⟩, hx⟩
        obtain ⟨k, hk, e⟩ := List.mem_iff_getElem.1 hx
        rw [length_pth] at hk
        have hg := pth_itm n h1 h2 m.blk.toNat (wid n).length k hk (Nat.le_refl _)
        have hgx : (pth (wid n) m.blk.toNat (wid n).length).getD k 0 = x := by rw [← e]; simp [hk, length_pth]
        rw [hgx] at hg
        refine ⟨(k, m.blk.toNat / 4 ^ k), (itsTo_mem _ n (topL n) _ _).2 ⟨by omega, (wrt_iff _ n _ _).2 ⟨m.blk.toNat, ?_, (hsome _).2 ⟨m, hm, ?_⟩, rfl⟩⟩, ?_⟩
        · have := hM m hm; omega
        · have := hM m hm; omega
        · rw [hg]
      · rintro ⟨⟨l, i⟩, hp, rfl⟩
        obtain ⟨a, b⟩ := (itsTo_mem _ n (topL n) l i).1 hp
        obtain ⟨j, hj, hs, e⟩ := (wrt_iff _ n l i).1 b
        obtain ⟨m, hm, hb⟩ := (hsome j).1 hs
        refine ⟨_, ⟨m, hm, rfl⟩, ?_⟩
        have hbj : m.blk.toNat = j := by omega
        have hl : l < (wid n).length := by omega
        have hg := pth_itm n h1 h2 m.blk.toNat (wid n).length l hl (Nat.le_refl _)
        rw [hbj, e] at hg
        simp only
        rw [hbj, ← hg]
        have hl2 : l < (pth (wid n) j (wid n).length).length := by rw [length_pth]; exact hl
        have : (pth (wid n) j (wid n).length).getD l 0 = (pth (wid n) j (wid n).length)[l] := by simp [hl2]
        rw [this]
        exact List.getElem_mem hl2
  · have := dnL_len n (itsTo (lastB (LM M)) n (topL n) (off n (topL n + 1))) (topL n)
    have h3 := List.length_filter_le (fun p : Nat × Nat => decide (p.1 ≤ topL n)) (itsTo (lastB (LM M)) n (topL n) (off n (topL n + 1)))
    omega
  · obtain ⟨l, i⟩ := p
    simp only at e
    subst e
    obtain ⟨a, b⟩ := (itsTo_mem _ n (topL n) 0 i).1 hp
    obtain ⟨j, hj, hs, e⟩ := (wrt_iff _ n 0 i).1 b
    simp only [Nat.pow_zero, Nat.div_one] at e
    subst e
    have hit : itm n 0 j = j := by simp [itm, off]
    simp only [hit]
    rw [lastB_I] at hs
    cases hI : lastI M j with
    | none => rw [hI] at hs; cases hs
    | some m => exact ⟨m, (lastI_mem M j m hI).1, by rw [fB_last, hI]; rfl, by rw [lastB_I, hI]; rfl⟩
  · obtain ⟨l, i⟩ := p
    simp only at e
    have hok2 := hok (l, i) hp
    rw [fB_last]
    cases hI : lastI M (itm n l i) with
    | none => rfl
    | some m =>
      have h3 := lastI_mem M _ m hI
      have h4 := hM m h3.1
      have h5 := off_mono n 1 l (by omega)
      have h6 : off n 1 = n := by simp [off, wd]
      unfold itm at h3
      omega
end Go.Proofs.YthbbijaikcmaeaaGreatDoor
namespace Go.Proofs.YthbbijaikcmaeaaGreatDoor
set_option maxRecDepth 100000
set_option linter.unusedVariables false
open Go.RowKit Plain Go.Proofs.YthbbijaikcmaeaaGreatDoor.Shap.Plain
theorem yr_zr : yr = zr := rfl
theorem itm_eq {n l i m j : Nat} (h1 : i < wd n l) (h2 : j < wd n m) (e : itm n l i = itm n m j) : l = m ∧ i = j := itm_inj n l m i j h1 h2 e
theorem fputs_other (n l i : Nat) (N : List Rf) (x : Nat) : ∀ (m : Nat) (F : Nat → Rf), m ≤ 4 → (∀ c, c < m → x ≠ itm n l (4 * i + c)) → Fputs n l i N F (fr m) x = F x
  | 0, F, _, _ => rfl
  | m + 1, F, h4, h => by
    have ih := fputs_other n l i N x m F (by omega) (fun c hc => h c (by omega))
    rw [fr_succ, Fputs, List.foldl_append]
    show Fput (Fputs n l i N F (fr m)) (itm n l (4 * i + (f4 m).val)) (N.getD (f4 m).val zr) x = F x
    rw [f4_val m (by omega), Fput, if_neg (h m (by omega)), ih]
theorem fputs_at (n l i : Nat) (N : List Rf) (c : Nat) (hc : 4 * i + c < wd n l) : ∀ (m : Nat) (F : Nat → Rf), m ≤ 4 → c < m → 4 * i + m ≤ wd n l → Fputs n l i N F (fr m) (itm n l (4 * i + c)) = N.getD c zr
  | 0, F, _, h, _ => by omega
  | m + 1, F, h4, h, hw => by
    rw [fr_succ, Fputs, List.foldl_append]
    show Fput (Fputs n l i N F (fr m)) (itm n l (4 * i + (f4 m).val)) (N.getD (f4 m).val zr) (itm n l (4 * i + c)) = N.getD c zr
    rw [f4_val m (by omega), Fput]
    by_cases e : c = m
    · subst e; rw [if_pos rfl]
    · rw [if_neg (fun h => e (by have := (itm_eq hc (by omega) h).2; omega))]
      exact fputs_at n l i N c hc m F (by omega) (by omega) (by omega)
structure Lev (n lv : Nat) (dn : List Nat) (s : Gst) (k : Nat → Rf) : Prop where
  f : ∀ j, j < wd n lv → j / 4 ∈ dn → s.2.2.1 (itm n lv j) = k j
  g : ∀ i ∈ dn, ∀ c, c < 4 → k (4 * i + c) = (s.2.2.2 (itm n (lv + 1) i)).getD c zr
def Stay (n lv : Nat) (xs : List Nat) (s t : Gst) : Prop := (∀ l i, l ≠ lv → i < wd n l → t.2.2.1 (itm n l i) = s.2.2.1 (itm n l i)) ∧ ∀ l i, (l ≠ lv + 1 ∨ i ∉ xs) → i < wd n l → t.2.2.2 (itm n l i) = s.2.2.2 (itm n l i)
theorem lev_step {n lv : Nat} {dn : List Nat} {s : Gst} {k : Nat → Rf} (h : Lev n lv dn s k) (hdn : ∀ i ∈ dn, i < wd n (lv + 1)) (i : Nat) (hi : i < wd n (lv + 1)) (N : List Rf) (d : Disk.Dk) :
    Lev n lv (i :: dn) (d, 0, Fputs n lv i N s.2.2.1 (fr (chn n lv i)), Gput s.2.2.2 (itm n (lv + 1) i) N) (setCh k i N) ∧ Stay n lv [i] s (d, 0, Fputs n lv i N s.2.2.1 (fr (chn n lv i)), Gput s.2.2.2 (itm n (lv + 1) i) N) := by
  have hch : 4 * i + chn n lv i ≤ wd n lv := by
    unfold chn
    rw [wd] at hi
    omega
  have hc4 : chn n lv i ≤ 4 := by unfold chn; omega
  refine ⟨⟨fun j hj hm => ?_, fun i' hm c hc => ?_⟩, fun l j hl hj => ?_, fun l j hl hj => ?_⟩
  · simp only [setCh]
    by_cases e : j / 4 = i
    · rw [if_pos e]
      have hj4 : j = 4 * i + j % 4 := by omega
      have hcm : j % 4 < chn n lv i := by unfold chn; omega
      have := fputs_at n lv i N (j % 4) (by omega) (chn n lv i) s.2.2.1 hc4 hcm hch
      rw [← hj4] at this
      rw [this, yr_zr]
    · rw [if_neg e]
      have hd : j / 4 ∈ dn := by
        rcases List.mem_cons.1 hm with h1 | h1
        · exact absurd h1 e
        · exact h1
      rw [fputs_other n lv i N _ _ _ hc4 (fun c hc e2 => e (by have := (itm_eq hj (by omega) e2).2; omega))]
      exact h.f j hj hd
  · simp only [setCh]
    have h1 : (4 * i' + c) / 4 = i' := by omega
    have h2 : (4 * i' + c) % 4 = c := by omega
    rw [h1, h2]
    by_cases e : i' = i
    · subst e
      rw [if_pos rfl, Gput, if_pos rfl, yr_zr]
    · have hd : i' ∈ dn := by
        rcases List.mem_cons.1 hm with h3 | h3
        · exact absurd h3 e
        · exact h3
      rw [if_neg e, Gput, if_neg (fun e2 => e (itm_eq (hdn i' hd) hi e2).2)]
      exact h.g i' hd c hc
  · exact fputs_other n lv i N _ _ _ hc4 (fun c hc e2 => hl (itm_eq hj (by omega) e2).1)
  · simp only [Gput]
    rw [if_neg (fun e2 => ?_)]
    have := itm_eq hj hi e2
    rcases hl with h1 | h1
    · exact h1 this.1
    · exact h1 (by rw [this.2]; exact List.mem_singleton_self _)
theorem Stay.trans {n lv : Nat} {a b : List Nat} {s t u : Gst} (h : Stay n lv a s t) (k : Stay n lv b t u) : Stay n lv (a ++ b) s u :=
  ⟨fun l i hl hi => (k.1 l i hl hi).trans (h.1 l i hl hi), fun l i hl hi => (k.2 l i (hl.imp id (fun h hm => h (List.mem_append_right _ hm))) hi).trans (h.2 l i (hl.imp id (fun h hm => h (List.mem_append_left _ hm))) hi)⟩
theorem lev_all (K : List Int) (n lv : Nat) (a : Nat → Rf) : ∀ (xs : List (Nd n)) (dn : List Nat) (s : Gst) (k : Nat → Rf), (∀ x ∈ xs, x.l = lv ∧ s.2.2.1 (itm n (lv + 1) x.i) = a x.i) → (∀ i ∈ dn, i < wd n (lv + 1)) → s.2.1 = 0 → Lev n lv dn s k →
    (gtM K n s xs).1 = (gatL (Yk K) Xd n (lv + 1) a (xs.map (·.i)) s.1 k).1 ∧ (gtM K n s xs).2.1 = (gatL (Yk K) Xd n (lv + 1) a (xs.map (·.i)) s.1 k).2.1 ∧
      ((gtM K n s xs).2.1 = 0 → Lev n lv (xs.map (·.i) ++ dn) (gtM K n s xs) (gatL (Yk K) Xd n (lv + 1) a (xs.map (·.i)) s.1 k).2.2 ∧ Stay n lv (xs.map (·.i)) s (gtM K n s xs))
  | [], dn, s, k, _, _, h0, hL => ⟨rfl, h0, fun _ => ⟨hL, fun _ _ _ _ => rfl, fun _ _ _ _ => rfl⟩⟩
  | x :: xs, dn, s, k, hx, hdn, h0, hL => by
    obtain ⟨hxl, hxa⟩ := hx x List.mem_cons_self
    have hxi : x.i < wd n (lv + 1) := by have := x.hi; rw [hxl] at this; exact this
    obtain ⟨z, hz⟩ : ∃ z, getM (Yk K) Xd n s.1 (lv + 1) x.i (a x.i) = z := ⟨_, rfl⟩
    have hgz : gtz K n s x = z := by unfold gtz; rw [hxl, hxa, hz]
    have e1 : gtM K n s (x :: xs) = gtM K n (gtSt K n s x) xs := rfl
    have e2 : gatL (Yk K) Xd n (lv + 1) a ((x :: xs).map (·.i)) s.1 k = if z.2.1 ≠ 0 then (z.1, z.2.1, k) else gatL (Yk K) Xd n (lv + 1) a (xs.map (·.i)) z.1 (setCh k x.i (ofN z.2.2 4)) := by
      rw [List.map_cons, gatL, hz]
    have e3 : gtSt K n s x = if z.2.1 ≠ 0 then (z.1, z.2.1, s.2.2.1, s.2.2.2) else (z.1, 0, Fputs n lv x.i (ofN z.2.2 4) s.2.2.1 (fr (chn n lv x.i)), Gput s.2.2.2 (itm n (lv + 1) x.i) (ofN z.2.2 4)) := by
      unfold gtSt
      rw [if_neg (by simpa using h0), hgz, hxl]
    rw [e1, e2, e3]
    by_cases hz0 : z.2.1 = 0
    · rw [if_neg (by simpa using hz0), if_neg (by simpa using hz0)]
      obtain ⟨l1, st1⟩ := lev_step hL hdn x.i hxi (ofN z.2.2 4) z.1
      obtain ⟨q1, q2, q3⟩ := lev_all K n lv a xs (x.i :: dn) _ _ (fun y hy => ⟨(hx y (List.mem_cons_of_mem _ hy)).1, by
        rw [st1.1 (lv + 1) y.i (by omega) (by have := y.hi; rw [(hx y (List.mem_cons_of_mem _ hy)).1] at this; exact this)]
        exact (hx y (List.mem_cons_of_mem _ hy)).2⟩) (fun i hi => by rcases List.mem_cons.1 hi with h | h; · rw [h]; exact hxi
                                                                     · exact hdn i h) rfl l1
      refine ⟨q1, q2, fun h => ?_⟩
      obtain ⟨r1, r2⟩ := q3 h
      refine ⟨⟨fun j hj hm => r1.f j hj ?_, fun i hi c hc => r1.g i ?_ c hc⟩, st1.trans r2⟩
      · simp only [List.map_cons, List.cons_append, List.mem_cons, List.mem_append] at hm ⊢
        rcases hm with h | h | h
        · exact .inr (.inl h)
        · exact .inl h
        · exact .inr (.inr h)
      · simp only [List.map_cons, List.cons_append, List.mem_cons, List.mem_append] at hi ⊢
        rcases hi with h | h | h
        · exact .inr (.inl h)
        · exact .inl h
        · exact .inr (.inr h)
    · rw [if_pos hz0, if_pos hz0, gtM_err K n xs _ hz0]
      exact ⟨rfl, rfl, fun h => absurd h hz0⟩
end Go.Proofs.YthbbijaikcmaeaaGreatDoor
