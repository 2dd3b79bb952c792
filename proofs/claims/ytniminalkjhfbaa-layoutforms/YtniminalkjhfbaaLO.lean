/-
  The walk of LayoutForms: a first block is that of just one layout; with any byte behind it is none: the law returns true.
-/
import Derived.Test.YtniminalkjhfbaaLG
namespace Go.Proofs.Ytniminalkjhfbaa
set_option linter.unusedVariables false
open Go.RowKit Plain

theorem exec_strB {o : Oper} {ρ : Operand → Value} {w' : World} (x y : Operand) (ty : TypeId) (ho : o.op = .binOp .eql 9 x y ty) (A B : List Int) (hA : Byt A) (hB : Byt B) (r : Bool) (hr : decide (A = B) = r) (hx : ρ x = .string (strOfNums A)) (hy : ρ y = .string (strOfNums B)) : (execOp ρ o).run Try.prog w' = .ok (.value (.bool r)) w' := by
  have := exec_str (w' := w') x y ty ho A B hA hB hx hy
  rwa [hr] at this
theorem exec_neB {o : Oper} {ρ : Operand → Value} {w' : World} (x y : Operand) (ty : TypeId) (ho : o.op = .binOp .neq 4 x y ty) (b : Bool) (hx : ρ x = .bool b) (hy : ρ y = .bool b) :
    (execOp ρ o).run Try.prog w' = .ok (.value (.bool false)) w' := by
  unfold execOp
  simp only [ho, hx, hy, Sem.run_bind, eqGuard]
  cases b <;> rfl
/-- Two layouts, and their bytes. -/
def Quad (w x : World) (S T : Nat) (b i d b2 i2 d2 : Int) (g h : Nat) : Prop := Lay x S b i 3 d ∧ Lay x T b2 i2 3 d2 ∧ Bytes x (some ⟨g, 0, none⟩) 160 (lb b i) ∧ Bytes x (some ⟨h, 0, none⟩) 160 (lb b2 i2) ∧ Below w.heap.size w x
theorem Quad.on {w x y : World} {S T : Nat} {b i d b2 i2 d2 : Int} {g h : Nat} (k : Quad w x S T b i d b2 i2 d2 g h) (hb : Below x.heap.size x y) : Quad w y S T b i d b2 i2 d2 g h := ⟨k.1.below hb, k.2.1.below hb, k.2.2.1.below hb, k.2.2.2.1.below hb, below_to k.2.2.2.2 hb⟩
/-- The row is the call's own: a byte may be stored in it. -/
theorem own_put {w x y : World} {B : List Int} {g k : Nat} (v : Int) (h : x.ownsRow w.heap.size 5 1 (.slice (some ⟨g, 0, none⟩) 160 160) 160 (B.map (Value.int .u8))) (hl : B.length = 160) (hB : Byt B) (hb : Below w.heap.size w x) (hk : k < 160) (hv : 0 ≤ v ∧ v ≤ 255) :
    x.cell? ⟨g, k, none⟩ = some (.int .u8 (B.getD k 0)) ∧ x.frozen? ⟨g, k, none⟩ = false ∧ Bytes (x.setCell ⟨g, k, none⟩ (.int .u8 v)) (some ⟨g, 0, none⟩) 160 (B.set k v) ∧ Below w.heap.size w (x.setCell ⟨g, k, none⟩ (.int .u8 v)) := by
  obtain ⟨g', cap, cur, e1, e2, e3, e4, _, _, e7⟩ := own_block h (by omega)
  simp only [Value.slice.injEq, Option.some.injEq, Addr.mk.injEq, and_true, true_and] at e1
  obtain ⟨rfl, _⟩ := e1
  refine ⟨?_, frozen_of_row x g _ cur 5 e3, own_set e3 e4 e7 hl hB hv hk, below_set hb e2 _⟩
  rw [cell_of_row _ _ _ _ _ _ e3, e7 k hk]
theorem lay_put {x : World} {S g k : Nat} {b i t d v : Int} (h : Lay x S b i t d) (hne : S ≠ g) : Lay (x.setCell ⟨g, k, none⟩ (.int .u8 v)) S b i t d := by
  unfold Lay at h ⊢
  rw [heap_setCell_other x ⟨g, k, none⟩ S _ hne]
  exact h
theorem own_base {w w0 : World} {x : World} {v : Value} {n : Nat} {xs : List Value} (h : x.ownsRow w0.heap.size 5 1 v n xs) (hb : Below w.heap.size w w0) : x.ownsRow w.heap.size 5 1 v n xs := by
  refine ⟨h.1, ?_⟩
  have := hb.size
  rcases h.2 with h3 | ⟨g, cap', cur, h3, hb', r⟩
  · exact .inl h3
  · exact .inr ⟨g, cap', cur, h3, by omega, r⟩
theorem own_ne {x y : World} {S g n c : Nat} {xs : List Value} {b i t d : Int} (h : y.ownsRow x.heap.size 5 1 (.slice (some ⟨g, 0, none⟩) n c) n xs) (hS : Lay x S b i t d) (hn : 0 < n) : S ≠ g := by
  have h1 := lt_of_row hS
  have h2 := (h.lt g rfl).1
  omega

set_option maxRecDepth 20000 in
set_option maxHeartbeats 4000000 in
theorem forms_one (a b0 c d0 p ov b i t d e b2 i2 t2 d2 e2 : Int) (w : World) (ha : 0 ≤ a ∧ a ≤ 65535) (hb : 0 ≤ b0 ∧ b0 ≤ 65535) (hc : 0 ≤ c ∧ c ≤ 65535) (hd : 0 ≤ d0 ∧ d0 ≤ 65535) (h1 : Box (e = 1)) 
    (CN : Box (∀ x, Calls Try.prog 9 #[.int .i64 a, .int .i64 b0] x fun r w' => r = .returned (.tuple #[.agg (lc b i t d), .int .i64 e]) ∧ Below x.heap.size x w'))
    (CM : Box (∀ x, Calls Try.prog 9 #[.int .i64 c, .int .i64 d0] x fun r w' => r = .returned (.tuple #[.agg (lc b2 i2 t2 d2), .int .i64 e2]) ∧ Below x.heap.size x w')) :
    Calls Try.prog 7 #[.int .u16 a, .int .u16 b0, .int .u16 c, .int .u16 d0, .int .u8 p, .int .u8 ov] w fun e w' => e = .returned (.bool true) ∧ Below w.heap.size w w' := by
  have CA : Box (∀ x, Calls Try.prog 8 #[] x fun e w' => e = .returned (.bool true) ∧ Below x.heap.size x w') := ⟨awake_any⟩
  go_enter Try.func7, Try.ntmps7
  go_upto_region 5 with (first
    | (refine wpList_newL w2 b i t d rfl _ _ rfl rfl rfl rfl ?_; intro z2 hz hb3; have H2 : Box (Lay z2 w2.heap.size b i t d ∧ Below w.heap.size w z2) := ⟨hz, below_to (below_to H1.out hb2) hb3⟩; clear hz hb3 hb2)
    | (go_at_call 9; refine Calls.mono (CN.out w1) ?_; rintro e0 w2 ⟨rfl, hb2⟩)
    | (go_at_call 8; refine Calls.mono (CA.out w) ?_; rintro e0 w1 ⟨rfl, hb1⟩; have H1 : Box (Below w.heap.size w w1) := ⟨hb1⟩; clear hb1))
  generalize w2.heap.size = S at H2 ⊢
  clear CA CN H1
  go_upto_region 6 with (first
    | (refine wpList_newL w4 b2 i2 t2 d2 rfl _ _ rfl rfl rfl rfl ?_; intro z4 hz hb3; have H4 : Box (Lay z4 S b i t d ∧ Lay z4 w4.heap.size b2 i2 t2 d2 ∧ Below w.heap.size w z4) := ⟨(H2.out.1.below hb2).below hb3, hz, below_to (below_to H2.out.2 hb2) hb3⟩; clear hz hb3 hb2)
    | (go_at_call 9; refine Calls.mono (CM.out z2) ?_; rintro e0 w4 ⟨rfl, hb2⟩))
  generalize w4.heap.size = T at H4 ⊢
  clear CM H2
  have g1 : (e != 0) = true := by simp [h1.out]
  go_wp2
  go_ret
  exact ⟨rfl, H4.out.2.2⟩

set_option maxRecDepth 20000 in
set_option maxHeartbeats 4000000 in
theorem forms_two (a b0 c d0 p ov b i t d e b2 i2 t2 d2 e2 : Int) (w : World) (ha : 0 ≤ a ∧ a ≤ 65535) (hb : 0 ≤ b0 ∧ b0 ≤ 65535) (hc : 0 ≤ c ∧ c ≤ 65535) (hd : 0 ≤ d0 ∧ d0 ≤ 65535) (h1 : Box (e = 0)) (h2 : Box (e2 = 1))
    (CN : Box (∀ x, Calls Try.prog 9 #[.int .i64 a, .int .i64 b0] x fun r w' => r = .returned (.tuple #[.agg (lc b i t d), .int .i64 e]) ∧ Below x.heap.size x w'))
    (CM : Box (∀ x, Calls Try.prog 9 #[.int .i64 c, .int .i64 d0] x fun r w' => r = .returned (.tuple #[.agg (lc b2 i2 t2 d2), .int .i64 e2]) ∧ Below x.heap.size x w')) :
    Calls Try.prog 7 #[.int .u16 a, .int .u16 b0, .int .u16 c, .int .u16 d0, .int .u8 p, .int .u8 ov] w fun e w' => e = .returned (.bool true) ∧ Below w.heap.size w w' := by
  have CA : Box (∀ x, Calls Try.prog 8 #[] x fun e w' => e = .returned (.bool true) ∧ Below x.heap.size x w') := ⟨awake_any⟩
  go_enter Try.func7, Try.ntmps7
  go_upto_region 5 with (first
    | (refine wpList_newL w2 b i t d rfl _ _ rfl rfl rfl rfl ?_; intro z2 hz hb3; have H2 : Box (Lay z2 w2.heap.size b i t d ∧ Below w.heap.size w z2) := ⟨hz, below_to (below_to H1.out hb2) hb3⟩; clear hz hb3 hb2)
    | (go_at_call 9; refine Calls.mono (CN.out w1) ?_; rintro e0 w2 ⟨rfl, hb2⟩)
    | (go_at_call 8; refine Calls.mono (CA.out w) ?_; rintro e0 w1 ⟨rfl, hb1⟩; have H1 : Box (Below w.heap.size w w1) := ⟨hb1⟩; clear hb1))
  generalize w2.heap.size = S at H2 ⊢
  clear CA CN H1
  go_upto_region 6 with (first
    | (refine wpList_newL w4 b2 i2 t2 d2 rfl _ _ rfl rfl rfl rfl ?_; intro z4 hz hb3; have H4 : Box (Lay z4 S b i t d ∧ Lay z4 w4.heap.size b2 i2 t2 d2 ∧ Below w.heap.size w z4) := ⟨(H2.out.1.below hb2).below hb3, hz, below_to (below_to H2.out.2 hb2) hb3⟩; clear hz hb3 hb2)
    | (go_at_call 9; refine Calls.mono (CM.out z2) ?_; rintro e0 w4 ⟨rfl, hb2⟩))
  generalize w4.heap.size = T at H4 ⊢
  clear CM H2
  have g1 : (e != 0) = false := by simp [h1.out]
  have g2 : (e2 != 0) = true := by simp [h2.out]
  go_wp2
  go_ret
  exact ⟨rfl, H4.out.2.2⟩

set_option maxRecDepth 20000 in
set_option maxHeartbeats 8000000 in
theorem forms_same (a b0 c d0 p ov b i t d e b2 i2 t2 d2 e2 q z : Int) (k : Nat) (r : Bool) (w : World) (ha : 0 ≤ a ∧ a ≤ 65535) (hb : 0 ≤ b0 ∧ b0 ≤ 65535) (hc : 0 ≤ c ∧ c ≤ 65535) (hd0 : 0 ≤ d0 ∧ d0 ≤ 65535) (hp : 0 ≤ p ∧ p ≤ 255) (ho : 0 ≤ ov ∧ ov ≤ 255) (h1 : Box (e = 0)) (h2 : Box (e2 = 0)) (ht : Box (t = 3 ∧ t2 = 3))
    (hb1 : 0 ≤ b ∧ b ≤ 1024) (hi1 : 0 ≤ i ∧ i ≤ 500) (hb2' : 0 ≤ b2 ∧ b2 ≤ 1024) (hi2 : 0 ≤ i2 ∧ i2 ≤ 500) (hr1 : Box (decide (lb b i = lb b2 i2) = r)) (hr2 : Box ((b == b2 && (i == i2 && ((3 : Int) == 3 && (d == d2 && true)))) = r))
    (tp : p.tmod 148 = q) (hq : 0 ≤ q ∧ q < 148) (hk : 12 + q = (k : Int)) (hz : Box ((lb b i).getD k 0 = z)) (hov : Box (ov = 0))
    (CN : Box (∀ x, Calls Try.prog 9 #[.int .i64 a, .int .i64 b0] x fun r w' => r = .returned (.tuple #[.agg (lc b i t d), .int .i64 e]) ∧ Below x.heap.size x w'))
    (CM : Box (∀ x, Calls Try.prog 9 #[.int .i64 c, .int .i64 d0] x fun r w' => r = .returned (.tuple #[.agg (lc b2 i2 t2 d2), .int .i64 e2]) ∧ Below x.heap.size x w'))
    (CG : Box (∀ x p c, Bytes x p 160 ((lb b i).set k ov) → Calls Try.prog 16 #[.slice p 160 c] x fun r w' => r = .returned (.tuple #[.agg (lc b i 3 d), .int .i64 0]) ∧ Below x.heap.size x w')) :
    Calls Try.prog 7 #[.int .u16 a, .int .u16 b0, .int .u16 c, .int .u16 d0, .int .u8 p, .int .u8 ov] w fun e w' => e = .returned (.bool true) ∧ Below w.heap.size w w' := by
  have CA : Box (∀ x, Calls Try.prog 8 #[] x fun e w' => e = .returned (.bool true) ∧ Below x.heap.size x w') := ⟨awake_any⟩
  go_enter Try.func7, Try.ntmps7
  go_upto_region 5 with (first
    | (refine wpList_newL w2 b i t d rfl _ _ rfl rfl rfl rfl ?_; intro z2 hz hb3; have H2 : Box (Lay z2 w2.heap.size b i t d ∧ Below w.heap.size w z2) := ⟨hz, below_to (below_to H1.out hb2) hb3⟩; clear hz hb3 hb2)
    | (go_at_call 9; refine Calls.mono (CN.out w1) ?_; rintro e0 w2 ⟨rfl, hb2⟩)
    | (go_at_call 8; refine Calls.mono (CA.out w) ?_; rintro e0 w1 ⟨rfl, hb1⟩; have H1 : Box (Below w.heap.size w w1) := ⟨hb1⟩; clear hb1))
  generalize w2.heap.size = S at H2 ⊢
  clear CA CN H1
  go_upto_region 6 with (first
    | (refine wpList_newL w4 b2 i2 t2 d2 rfl _ _ rfl rfl rfl rfl ?_; intro z4 hz hb3; have H4 : Box (Lay z4 S b i t d ∧ Lay z4 w4.heap.size b2 i2 t2 d2 ∧ Below w.heap.size w z4) := ⟨(H2.out.1.below hb2).below hb3, hz, below_to (below_to H2.out.2 hb2) hb3⟩; clear hz hb3 hb2)
    | (go_at_call 9; refine Calls.mono (CM.out z2) ?_; rintro e0 w4 ⟨rfl, hb2⟩))
  generalize w4.heap.size = T at H4 ⊢
  clear CM H2
  have g1 : (e != 0) = false := by simp [h1.out]
  have g2 : (e2 != 0) = false := by simp [h2.out]
  rw [ht.out.1, ht.out.2] at H4
  go_upto_region 8 with fail
  clear g1 g2 h1 h2 ht ha hb hc hd0
  go_upto_region 9 with (first
    | (refine wpList_ldL rfl _ rfl S b i 3 d rfl H4.out.1 ?_)
    | (go_at_call 14; refine Calls.mono (lput_any b i 3 d z4 hb1 hi1) ?_; rintro e0 w5 ⟨g, rfl, hO⟩; have H5 : Box (Lay w5 S b i 3 d ∧ Lay w5 T b2 i2 3 d2 ∧ w5.ownsRow w.heap.size 5 1 (.slice (some ⟨g, 0, none⟩) 160 160) 160 ((lb b i).map (Value.int .u8)) ∧ Below w.heap.size w w5 ∧ S ≠ g) := ⟨H4.out.1.below hO.2.2, H4.out.2.1.below hO.2.2, own_base hO.2.1 H4.out.2.2, below_to H4.out.2.2 hO.2.2, own_ne hO.2.1 H4.out.1 (by omega)⟩; clear hO))
  clear H4
  go_upto_region 10 with (first
    | (refine wpList_ldL rfl _ rfl T b2 i2 3 d2 rfl H5.out.2.1 ?_)
    | (go_at_call 14; refine Calls.mono (lput_any b2 i2 3 d2 w5 hb2' hi2) ?_; rintro e0 w6 ⟨h, rfl, hO⟩; have HR : Box (w6.ownsRow w.heap.size 5 1 (.slice (some ⟨g, 0, none⟩) 160 160) 160 ((lb b i).map (Value.int .u8)) ∧ S ≠ g) := ⟨own_later H5.out.2.2.1 hO.2.2, H5.out.2.2.2.2⟩; have H9 : Box (Quad w w6 S T b i d b2 i2 d2 g h) := ⟨H5.out.1.below hO.2.2, H5.out.2.1.below hO.2.2, own_bytes HR.out.1 (byt_lb b i), hO.bytes (byt_lb b2 i2), below_to H5.out.2.2.2.1 hO.2.2⟩; clear hO))
  clear H5 hb1 hi1 hb2' hi2
  refine Seq.begin_any (by kernel_rfl) (fun wd hd => ?_)
  refine Seq.take_lat (i := 0) (v := ?_) rfl (by kernel_rfl) (by kernel_rfl) (by kernel_rfl) (fun _ _ _ h => h) (by rfl) ?_ ?_
  rotate_left
  · intro w' hLat; change Below _ _ _ at hLat; go_simp <;> with_reducible rfl
  try simp only [Act.put, List.setIfInBounds_toArray, List.set_cons_zero, List.set_cons_succ, List.getElem_toArray, List.getElem_cons_zero]
  refine Seq.take_lat (i := 1) (v := ?_) rfl (by kernel_rfl) (by kernel_rfl) (by kernel_rfl) (fun _ _ _ h => h) (by rfl) ?_ ?_
  rotate_left
  · intro w' hLat; change Below _ _ _ at hLat; go_simp <;> with_reducible rfl
  try simp only [Act.put, List.setIfInBounds_toArray, List.set_cons_zero, List.set_cons_succ, List.getElem_toArray, List.getElem_cons_zero, List.getElem_cons_succ]
  refine Seq.take_lat (i := 2) (v := ?_) rfl (by kernel_rfl) (by kernel_rfl) (by kernel_rfl) (fun _ _ _ h => h) (by rfl) ?_ ?_
  rotate_left
  · intro w' hLat; change Below _ _ _ at hLat; go_simp <;> with_reducible rfl
  try simp only [Act.put, List.setIfInBounds_toArray, List.set_cons_zero, List.set_cons_succ, List.getElem_toArray, List.getElem_cons_zero, List.getElem_cons_succ]
  refine Seq.take_lat (i := 3) (v := ?_) rfl (by kernel_rfl) (by kernel_rfl) (by kernel_rfl) (fun _ _ _ h => h) (by rfl) ?_ ?_
  rotate_left
  · intro w' hLat; change Below _ _ _ at hLat; go_simp <;> with_reducible rfl
  try simp only [Act.put, List.setIfInBounds_toArray, List.set_cons_zero, List.set_cons_succ, List.getElem_toArray, List.getElem_cons_zero, List.getElem_cons_succ]
  refine Seq.take_lat (i := 4) (v := ?_) rfl (by kernel_rfl) (by kernel_rfl) (by kernel_rfl) (fun _ _ _ h => h) (by rfl) ?_ ?_
  rotate_left
  · intro w' hLat; change Below _ _ _ at hLat; go_simp <;> with_reducible rfl
  try simp only [Act.put, List.setIfInBounds_toArray, List.set_cons_zero, List.set_cons_succ, List.getElem_toArray, List.getElem_cons_zero, List.getElem_cons_succ]
  refine Seq.take_lat (i := 5) (v := .string (strOfNums (lb b i))) rfl (by kernel_rfl) (by kernel_rfl) (by kernel_rfl) (fun _ _ _ h => h) (by rfl) (fun w' hLat => exec_conv (.tmp 56) rfl rfl ((H9.out.on hd).on hLat).2.2.1) ?_
  try simp only [Act.put, List.setIfInBounds_toArray, List.set_cons_zero, List.set_cons_succ, List.getElem_toArray, List.getElem_cons_zero, List.getElem_cons_succ]
  refine Seq.take_lat (i := 6) (v := ?_) rfl (by kernel_rfl) (by kernel_rfl) (by kernel_rfl) (fun _ _ _ h => h) (by rfl) ?_ ?_
  rotate_left
  · intro w' hLat; change Below _ _ _ at hLat; go_simp <;> with_reducible rfl
  try simp only [Act.put, List.setIfInBounds_toArray, List.set_cons_zero, List.set_cons_succ, List.getElem_toArray, List.getElem_cons_zero, List.getElem_cons_succ]
  refine Seq.take_lat (i := 7) (v := .string (strOfNums (lb b2 i2))) rfl (by kernel_rfl) (by kernel_rfl) (by kernel_rfl) (fun _ _ _ h => h) (by rfl) (fun w' hLat => exec_conv (.tmp 58) rfl rfl ((H9.out.on hd).on hLat).2.2.2.1) ?_
  try simp only [Act.put, List.setIfInBounds_toArray, List.set_cons_zero, List.set_cons_succ, List.getElem_toArray, List.getElem_cons_zero, List.getElem_cons_succ]
  refine Seq.take_lat (i := 8) (v := .bool r) rfl (by kernel_rfl) (by kernel_rfl) (by kernel_rfl) (fun _ _ _ h => h) (by rfl) (fun w' hLat => exec_strB _ _ _ rfl (lb b i) (lb b2 i2) (byt_lb b i) (byt_lb b2 i2) r hr1.out rfl rfl) ?_
  try simp only [Act.put, List.setIfInBounds_toArray, List.set_cons_zero, List.set_cons_succ, List.getElem_toArray, List.getElem_cons_zero, List.getElem_cons_succ]
  refine Seq.take_lat (i := 9) (v := .agg (lc b i 3 d)) rfl (by kernel_rfl) (by kernel_rfl) (by kernel_rfl) (fun _ _ _ h => h) (by rfl) (fun w' hLat => exec_ldL _ rfl S b i 3 d rfl ((H9.out.on hd).on hLat).1) ?_
  try simp only [Act.put, List.setIfInBounds_toArray, List.set_cons_zero, List.set_cons_succ, List.getElem_toArray, List.getElem_cons_zero, List.getElem_cons_succ]
  refine Seq.take_lat (i := 10) (v := .agg (lc b2 i2 3 d2)) rfl (by kernel_rfl) (by kernel_rfl) (by kernel_rfl) (fun _ _ _ h => h) (by rfl) (fun w' hLat => exec_ldL _ rfl T b2 i2 3 d2 rfl ((H9.out.on hd).on hLat).2.1) ?_
  try simp only [Act.put, List.setIfInBounds_toArray, List.set_cons_zero, List.set_cons_succ, List.getElem_toArray, List.getElem_cons_zero, List.getElem_cons_succ]
  refine Seq.take_lat (i := 11) (v := .bool r) rfl (by kernel_rfl) (by kernel_rfl) (by kernel_rfl) (fun _ _ _ h => h) (by rfl) (fun w' hLat => exec_eqL _ _ _ rfl b i 3 d b2 i2 3 d2 r hr2.out rfl rfl) ?_
  try simp only [Act.put, List.setIfInBounds_toArray, List.set_cons_zero, List.set_cons_succ, List.getElem_toArray, List.getElem_cons_zero, List.getElem_cons_succ]
  refine Seq.take_lat (i := 12) (v := .bool false) rfl (by kernel_rfl) (by kernel_rfl) (by kernel_rfl) (fun _ _ _ h => h) (by rfl) (fun w' hLat => exec_neB _ _ _ rfl r rfl rfl) ?_
  try simp only [Act.put, List.setIfInBounds_toArray, List.set_cons_zero, List.set_cons_succ, List.getElem_toArray, List.getElem_cons_zero, List.getElem_cons_succ]
  refine Seq.take_lat (i := 13) (v := ?_) rfl (by kernel_rfl) (by kernel_rfl) (by kernel_rfl) (fun _ _ _ h => h) (by rfl) ?_ ?_
  rotate_left
  · intro w' hLat; change Below _ _ _ at hLat; go_simp <;> with_reducible rfl
  try simp only [Act.put, List.setIfInBounds_toArray, List.set_cons_zero, List.set_cons_succ, List.getElem_toArray, List.getElem_cons_zero, List.getElem_cons_succ]
  refine wpAnyH_done (by kernel_rfl) ?_ _
  have HD : Box (Quad w wd S T b i d b2 i2 d2 g h ∧ wd.ownsRow w.heap.size 5 1 (.slice (some ⟨g, 0, none⟩) 160 160) 160 ((lb b i).map (Value.int .u8)) ∧ S ≠ g) := ⟨H9.out.on hd, own_later HR.out.1 hd, HR.out.2⟩
  clear H9 HR hd
  have hk2 : 12 ≤ k ∧ k < 160 := by omega
  obtain ⟨q1, q2, q3, q4⟩ := own_put (w := w) (y := wd) (k := k) ov HD.out.2.1 (length_lb b i) (byt_lb b i) HD.out.1.2.2.2.2 hk2.2 ho
  rw [hz.out] at q1
  have H6 : Box (Lay (wd.setCell ⟨g, k, none⟩ (.int .u8 ov)) S b i 3 d ∧ Bytes (wd.setCell ⟨g, k, none⟩ (.int .u8 ov)) (some ⟨g, 0, none⟩) 160 ((lb b i).set k ov) ∧ Below w.heap.size w (wd.setCell ⟨g, k, none⟩ (.int .u8 ov))) := ⟨lay_put HD.out.1.1 HD.out.2.2, q3, q4⟩
  clear q3 q4 HD hz hr1 hr2
  go_upto_region 14 with fail
  clear q1 q2 tp hq hk hp hk2
  generalize wd.setCell ⟨g, k, none⟩ (.int .u8 ov) = w7 at H6 ⊢
  go_upto_region 15 with (first
    | (refine wpList_newL w8 b i 3 d rfl _ _ rfl rfl rfl rfl ?_; intro z8 hzz hb3; have H8 : Box (Lay z8 S b i 3 d ∧ Lay z8 w8.heap.size b i 3 d ∧ Below w.heap.size w z8) := ⟨H12.out.1.below hb3, hzz, below_to H12.out.2 hb3⟩; clear hzz hb3 H12)
    | (go_at_call 16; refine Calls.mono (CG.out w7 _ 160 H6.out.2.1) ?_; rintro e0 w8 ⟨rfl, hb⟩; have H12 : Box (Lay w8 S b i 3 d ∧ Below w.heap.size w w8) := ⟨H6.out.1.below hb, below_to H6.out.2.2 hb⟩; clear hb H6))
  generalize w8.heap.size = X at H8 ⊢
  clear CG
  have g3 : (ov == 0) = true := by simp [hov.out]
  have g4 : (ov != 0) = false := by simp [hov.out]
  clear hov
  go_wp2_with (first
    | (refine wpList_runG rfl _ _ (exec_ldL _ rfl X b i 3 d rfl H8.out.2.1) ?_)
    | (refine wpList_runG rfl _ _ (exec_ldL _ rfl S b i 3 d rfl H8.out.1) ?_)
    | (refine wpList_runG rfl _ _ (exec_eqL _ _ _ rfl b i 3 d b i 3 d true (by simp) rfl rfl) ?_))
  go_ret
  exact ⟨rfl, H8.out.2.2⟩

set_option maxRecDepth 20000 in
set_option maxHeartbeats 8000000 in
theorem forms_other (a b0 c d0 p ov b i t d e b2 i2 t2 d2 e2 q z : Int) (k : Nat) (r : Bool) (w : World) (ha : 0 ≤ a ∧ a ≤ 65535) (hb : 0 ≤ b0 ∧ b0 ≤ 65535) (hc : 0 ≤ c ∧ c ≤ 65535) (hd0 : 0 ≤ d0 ∧ d0 ≤ 65535) (hp : 0 ≤ p ∧ p ≤ 255) (ho : 0 ≤ ov ∧ ov ≤ 255) (h1 : Box (e = 0)) (h2 : Box (e2 = 0)) (ht : Box (t = 3 ∧ t2 = 3))
    (hb1 : 0 ≤ b ∧ b ≤ 1024) (hi1 : 0 ≤ i ∧ i ≤ 500) (hb2' : 0 ≤ b2 ∧ b2 ≤ 1024) (hi2 : 0 ≤ i2 ∧ i2 ≤ 500) (hr1 : Box (decide (lb b i = lb b2 i2) = r)) (hr2 : Box ((b == b2 && (i == i2 && ((3 : Int) == 3 && (d == d2 && true)))) = r))
    (tp : p.tmod 148 = q) (hq : 0 ≤ q ∧ q < 148) (hk : 12 + q = (k : Int)) (hz : Box ((lb b i).getD k 0 = z)) (hov : Box (ov ≠ 0))
    (CN : Box (∀ x, Calls Try.prog 9 #[.int .i64 a, .int .i64 b0] x fun r w' => r = .returned (.tuple #[.agg (lc b i t d), .int .i64 e]) ∧ Below x.heap.size x w'))
    (CM : Box (∀ x, Calls Try.prog 9 #[.int .i64 c, .int .i64 d0] x fun r w' => r = .returned (.tuple #[.agg (lc b2 i2 t2 d2), .int .i64 e2]) ∧ Below x.heap.size x w'))
    (CG : Box (∀ x p c, Bytes x p 160 ((lb b i).set k ov) → Calls Try.prog 16 #[.slice p 160 c] x fun r w' => r = .returned (.tuple #[.agg (lc 0 0 0 0), .int .i64 11]) ∧ Below x.heap.size x w')) :
    Calls Try.prog 7 #[.int .u16 a, .int .u16 b0, .int .u16 c, .int .u16 d0, .int .u8 p, .int .u8 ov] w fun e w' => e = .returned (.bool true) ∧ Below w.heap.size w w' := by
  have CA : Box (∀ x, Calls Try.prog 8 #[] x fun e w' => e = .returned (.bool true) ∧ Below x.heap.size x w') := ⟨awake_any⟩
  go_enter Try.func7, Try.ntmps7
  go_upto_region 5 with (first
    | (refine wpList_newL w2 b i t d rfl _ _ rfl rfl rfl rfl ?_; intro z2 hz hb3; have H2 : Box (Lay z2 w2.heap.size b i t d ∧ Below w.heap.size w z2) := ⟨hz, below_to (below_to H1.out hb2) hb3⟩; clear hz hb3 hb2)
    | (go_at_call 9; refine Calls.mono (CN.out w1) ?_; rintro e0 w2 ⟨rfl, hb2⟩)
    | (go_at_call 8; refine Calls.mono (CA.out w) ?_; rintro e0 w1 ⟨rfl, hb1⟩; have H1 : Box (Below w.heap.size w w1) := ⟨hb1⟩; clear hb1))
  generalize w2.heap.size = S at H2 ⊢
  clear CA CN H1
  go_upto_region 6 with (first
    | (refine wpList_newL w4 b2 i2 t2 d2 rfl _ _ rfl rfl rfl rfl ?_; intro z4 hz hb3; have H4 : Box (Lay z4 S b i t d ∧ Lay z4 w4.heap.size b2 i2 t2 d2 ∧ Below w.heap.size w z4) := ⟨(H2.out.1.below hb2).below hb3, hz, below_to (below_to H2.out.2 hb2) hb3⟩; clear hz hb3 hb2)
    | (go_at_call 9; refine Calls.mono (CM.out z2) ?_; rintro e0 w4 ⟨rfl, hb2⟩))
  generalize w4.heap.size = T at H4 ⊢
  clear CM H2
  have g1 : (e != 0) = false := by simp [h1.out]
  have g2 : (e2 != 0) = false := by simp [h2.out]
  rw [ht.out.1, ht.out.2] at H4
  go_upto_region 8 with fail
  clear g1 g2 h1 h2 ht ha hb hc hd0
  go_upto_region 9 with (first
    | (refine wpList_ldL rfl _ rfl S b i 3 d rfl H4.out.1 ?_)
    | (go_at_call 14; refine Calls.mono (lput_any b i 3 d z4 hb1 hi1) ?_; rintro e0 w5 ⟨g, rfl, hO⟩; have H5 : Box (Lay w5 S b i 3 d ∧ Lay w5 T b2 i2 3 d2 ∧ w5.ownsRow w.heap.size 5 1 (.slice (some ⟨g, 0, none⟩) 160 160) 160 ((lb b i).map (Value.int .u8)) ∧ Below w.heap.size w w5 ∧ S ≠ g) := ⟨H4.out.1.below hO.2.2, H4.out.2.1.below hO.2.2, own_base hO.2.1 H4.out.2.2, below_to H4.out.2.2 hO.2.2, own_ne hO.2.1 H4.out.1 (by omega)⟩; clear hO))
  clear H4
  go_upto_region 10 with (first
    | (refine wpList_ldL rfl _ rfl T b2 i2 3 d2 rfl H5.out.2.1 ?_)
    | (go_at_call 14; refine Calls.mono (lput_any b2 i2 3 d2 w5 hb2' hi2) ?_; rintro e0 w6 ⟨h, rfl, hO⟩; have HR : Box (w6.ownsRow w.heap.size 5 1 (.slice (some ⟨g, 0, none⟩) 160 160) 160 ((lb b i).map (Value.int .u8)) ∧ S ≠ g) := ⟨own_later H5.out.2.2.1 hO.2.2, H5.out.2.2.2.2⟩; have H9 : Box (Quad w w6 S T b i d b2 i2 d2 g h) := ⟨H5.out.1.below hO.2.2, H5.out.2.1.below hO.2.2, own_bytes HR.out.1 (byt_lb b i), hO.bytes (byt_lb b2 i2), below_to H5.out.2.2.2.1 hO.2.2⟩; clear hO))
  clear H5 hb1 hi1 hb2' hi2
  refine Seq.begin_any (by kernel_rfl) (fun wd hd => ?_)
  refine Seq.take_lat (i := 0) (v := ?_) rfl (by kernel_rfl) (by kernel_rfl) (by kernel_rfl) (fun _ _ _ h => h) (by rfl) ?_ ?_
  rotate_left
  · intro w' hLat; change Below _ _ _ at hLat; go_simp <;> with_reducible rfl
  try simp only [Act.put, List.setIfInBounds_toArray, List.set_cons_zero, List.set_cons_succ, List.getElem_toArray, List.getElem_cons_zero]
  refine Seq.take_lat (i := 1) (v := ?_) rfl (by kernel_rfl) (by kernel_rfl) (by kernel_rfl) (fun _ _ _ h => h) (by rfl) ?_ ?_
  rotate_left
  · intro w' hLat; change Below _ _ _ at hLat; go_simp <;> with_reducible rfl
  try simp only [Act.put, List.setIfInBounds_toArray, List.set_cons_zero, List.set_cons_succ, List.getElem_toArray, List.getElem_cons_zero, List.getElem_cons_succ]
  refine Seq.take_lat (i := 2) (v := ?_) rfl (by kernel_rfl) (by kernel_rfl) (by kernel_rfl) (fun _ _ _ h => h) (by rfl) ?_ ?_
  rotate_left
  · intro w' hLat; change Below _ _ _ at hLat; go_simp <;> with_reducible rfl
  try simp only [Act.put, List.setIfInBounds_toArray, List.set_cons_zero, List.set_cons_succ, List.getElem_toArray, List.getElem_cons_zero, List.getElem_cons_succ]
  refine Seq.take_lat (i := 3) (v := ?_) rfl (by kernel_rfl) (by kernel_rfl) (by kernel_rfl) (fun _ _ _ h => h) (by rfl) ?_ ?_
  rotate_left
  · intro w' hLat; change Below _ _ _ at hLat; go_simp <;> with_reducible rfl
  try simp only [Act.put, List.setIfInBounds_toArray, List.set_cons_zero, List.set_cons_succ, List.getElem_toArray, List.getElem_cons_zero, List.getElem_cons_succ]
  refine Seq.take_lat (i := 4) (v := ?_) rfl (by kernel_rfl) (by kernel_rfl) (by kernel_rfl) (fun _ _ _ h => h) (by rfl) ?_ ?_
  rotate_left
  · intro w' hLat; change Below _ _ _ at hLat; go_simp <;> with_reducible rfl
  try simp only [Act.put, List.setIfInBounds_toArray, List.set_cons_zero, List.set_cons_succ, List.getElem_toArray, List.getElem_cons_zero, List.getElem_cons_succ]
  refine Seq.take_lat (i := 5) (v := .string (strOfNums (lb b i))) rfl (by kernel_rfl) (by kernel_rfl) (by kernel_rfl) (fun _ _ _ h => h) (by rfl) (fun w' hLat => exec_conv (.tmp 56) rfl rfl ((H9.out.on hd).on hLat).2.2.1) ?_
  try simp only [Act.put, List.setIfInBounds_toArray, List.set_cons_zero, List.set_cons_succ, List.getElem_toArray, List.getElem_cons_zero, List.getElem_cons_succ]
  refine Seq.take_lat (i := 6) (v := ?_) rfl (by kernel_rfl) (by kernel_rfl) (by kernel_rfl) (fun _ _ _ h => h) (by rfl) ?_ ?_
  rotate_left
  · intro w' hLat; change Below _ _ _ at hLat; go_simp <;> with_reducible rfl
  try simp only [Act.put, List.setIfInBounds_toArray, List.set_cons_zero, List.set_cons_succ, List.getElem_toArray, List.getElem_cons_zero, List.getElem_cons_succ]
  refine Seq.take_lat (i := 7) (v := .string (strOfNums (lb b2 i2))) rfl (by kernel_rfl) (by kernel_rfl) (by kernel_rfl) (fun _ _ _ h => h) (by rfl) (fun w' hLat => exec_conv (.tmp 58) rfl rfl ((H9.out.on hd).on hLat).2.2.2.1) ?_
  try simp only [Act.put, List.setIfInBounds_toArray, List.set_cons_zero, List.set_cons_succ, List.getElem_toArray, List.getElem_cons_zero, List.getElem_cons_succ]
  refine Seq.take_lat (i := 8) (v := .bool r) rfl (by kernel_rfl) (by kernel_rfl) (by kernel_rfl) (fun _ _ _ h => h) (by rfl) (fun w' hLat => exec_strB _ _ _ rfl (lb b i) (lb b2 i2) (byt_lb b i) (byt_lb b2 i2) r hr1.out rfl rfl) ?_
  try simp only [Act.put, List.setIfInBounds_toArray, List.set_cons_zero, List.set_cons_succ, List.getElem_toArray, List.getElem_cons_zero, List.getElem_cons_succ]
  refine Seq.take_lat (i := 9) (v := .agg (lc b i 3 d)) rfl (by kernel_rfl) (by kernel_rfl) (by kernel_rfl) (fun _ _ _ h => h) (by rfl) (fun w' hLat => exec_ldL _ rfl S b i 3 d rfl ((H9.out.on hd).on hLat).1) ?_
  try simp only [Act.put, List.setIfInBounds_toArray, List.set_cons_zero, List.set_cons_succ, List.getElem_toArray, List.getElem_cons_zero, List.getElem_cons_succ]
  refine Seq.take_lat (i := 10) (v := .agg (lc b2 i2 3 d2)) rfl (by kernel_rfl) (by kernel_rfl) (by kernel_rfl) (fun _ _ _ h => h) (by rfl) (fun w' hLat => exec_ldL _ rfl T b2 i2 3 d2 rfl ((H9.out.on hd).on hLat).2.1) ?_
  try simp only [Act.put, List.setIfInBounds_toArray, List.set_cons_zero, List.set_cons_succ, List.getElem_toArray, List.getElem_cons_zero, List.getElem_cons_succ]
  refine Seq.take_lat (i := 11) (v := .bool r) rfl (by kernel_rfl) (by kernel_rfl) (by kernel_rfl) (fun _ _ _ h => h) (by rfl) (fun w' hLat => exec_eqL _ _ _ rfl b i 3 d b2 i2 3 d2 r hr2.out rfl rfl) ?_
  try simp only [Act.put, List.setIfInBounds_toArray, List.set_cons_zero, List.set_cons_succ, List.getElem_toArray, List.getElem_cons_zero, List.getElem_cons_succ]
  refine Seq.take_lat (i := 12) (v := .bool false) rfl (by kernel_rfl) (by kernel_rfl) (by kernel_rfl) (fun _ _ _ h => h) (by rfl) (fun w' hLat => exec_neB _ _ _ rfl r rfl rfl) ?_
  try simp only [Act.put, List.setIfInBounds_toArray, List.set_cons_zero, List.set_cons_succ, List.getElem_toArray, List.getElem_cons_zero, List.getElem_cons_succ]
  refine Seq.take_lat (i := 13) (v := ?_) rfl (by kernel_rfl) (by kernel_rfl) (by kernel_rfl) (fun _ _ _ h => h) (by rfl) ?_ ?_
  rotate_left
  · intro w' hLat; change Below _ _ _ at hLat; go_simp <;> with_reducible rfl
  try simp only [Act.put, List.setIfInBounds_toArray, List.set_cons_zero, List.set_cons_succ, List.getElem_toArray, List.getElem_cons_zero, List.getElem_cons_succ]
  refine wpAnyH_done (by kernel_rfl) ?_ _
  have HD : Box (Quad w wd S T b i d b2 i2 d2 g h ∧ wd.ownsRow w.heap.size 5 1 (.slice (some ⟨g, 0, none⟩) 160 160) 160 ((lb b i).map (Value.int .u8)) ∧ S ≠ g) := ⟨H9.out.on hd, own_later HR.out.1 hd, HR.out.2⟩
  clear H9 HR hd
  have hk2 : 12 ≤ k ∧ k < 160 := by omega
  obtain ⟨q1, q2, q3, q4⟩ := own_put (w := w) (y := wd) (k := k) ov HD.out.2.1 (length_lb b i) (byt_lb b i) HD.out.1.2.2.2.2 hk2.2 ho
  rw [hz.out] at q1
  have H6 : Box (Lay (wd.setCell ⟨g, k, none⟩ (.int .u8 ov)) S b i 3 d ∧ Bytes (wd.setCell ⟨g, k, none⟩ (.int .u8 ov)) (some ⟨g, 0, none⟩) 160 ((lb b i).set k ov) ∧ Below w.heap.size w (wd.setCell ⟨g, k, none⟩ (.int .u8 ov))) := ⟨lay_put HD.out.1.1 HD.out.2.2, q3, q4⟩
  clear q3 q4 HD hz hr1 hr2
  go_upto_region 14 with fail
  clear q1 q2 tp hq hk hp hk2
  generalize wd.setCell ⟨g, k, none⟩ (.int .u8 ov) = w7 at H6 ⊢
  go_upto_region 15 with (first
    | (refine wpList_newL w8 0 0 0 0 rfl _ _ rfl rfl rfl rfl ?_; intro z8 hzz hb3; have H8 : Box (Lay z8 S b i 3 d ∧ Lay z8 w8.heap.size 0 0 0 0 ∧ Below w.heap.size w z8) := ⟨H12.out.1.below hb3, hzz, below_to H12.out.2 hb3⟩; clear hzz hb3 H12)
    | (go_at_call 16; refine Calls.mono (CG.out w7 _ 160 H6.out.2.1) ?_; rintro e0 w8 ⟨rfl, hb⟩; have H12 : Box (Lay w8 S b i 3 d ∧ Below w.heap.size w w8) := ⟨H6.out.1.below hb, below_to H6.out.2.2 hb⟩; clear hb H6))
  generalize w8.heap.size = X at H8 ⊢
  clear CG
  have g3 : (ov == 0) = false := by simpa using hov.out
  have g4 : (ov != 0) = true := by simpa using hov.out
  clear hov
  go_wp2_with (first
    | (refine wpList_runG rfl _ _ (exec_ldL _ rfl X 0 0 0 0 rfl H8.out.2.1) ?_)
    | (refine wpList_runG rfl _ _ (exec_ldL _ rfl S b i 3 d rfl H8.out.1) ?_)
    | (refine wpList_runG rfl _ _ (exec_eqL _ _ _ rfl b i 3 d b i 3 d true (by simp) rfl rfl) ?_))
  go_ret
  exact ⟨rfl, H8.out.2.2⟩

theorem set_same (L : List Int) (k : Nat) (h : k < L.length) : L.set k (L.getD k 0) = L := by
  apply List.ext_getElem (by simp)
  intro j h1 h2
  rw [List.getElem_set]
  split
  · rename_i e
    subst e
    simp [List.getD, h]
  · rfl
theorem layoutForms_walk (a b0 c d0 p ov : Int) (w : World) (h1 : (Lit.int .u16 a).wf = true) (h2 : (Lit.int .u16 b0).wf = true) (h3 : (Lit.int .u16 c).wf = true) (h4 : (Lit.int .u16 d0).wf = true) (h5 : (Lit.int .u8 p).wf = true) (h6 : (Lit.int .u8 ov).wf = true) :
    Calls Try.prog 7 #[.int .u16 a, .int .u16 b0, .int .u16 c, .int .u16 d0, .int .u8 p, .int .u8 ov] w fun e w' => e = .returned (.bool true) ∧ Below w.heap.size w w' := by
  have k1 := bounds_u16 h1
  have k2 := bounds_u16 h2
  have k3 := bounds_u16 h3
  have k4 := bounds_u16 h4
  have k5 := bounds_u8 h5
  have k6 := bounds_u8 h6
  have key : ∀ b i : Int, ∃ b' i' t d e, (okL b i ∧ b' = b ∧ i' = i ∧ t = 3 ∧ d = 3 + (i + 4) / 5 ∧ e = 0 ∨ ¬ okL b i ∧ e = 1) ∧ Box (∀ x, Calls Try.prog 9 #[.int .i64 b, .int .i64 i] x fun r w' => r = .returned (.tuple #[.agg (lc b' i' t d), .int .i64 e]) ∧ Below x.heap.size x w') := fun b i => by
    by_cases h : okL b i
    · exact ⟨_, _, _, _, _, .inl ⟨h, rfl, rfl, rfl, rfl, rfl⟩, ⟨fun z => by have := new_any b i z; rwa [newV_ok h] at this⟩⟩
    · exact ⟨_, _, _, _, _, .inr ⟨h, rfl⟩, ⟨fun z => by have := new_any b i z; rwa [newV_no h] at this⟩⟩
  obtain ⟨b, i, t, d, e, hA, CN⟩ := key a b0
  obtain ⟨b2, i2, t2, d2, e2, hB, CM⟩ := key c d0
  rcases hA with ⟨oA, rfl, rfl, rfl, rfl, rfl⟩ | ⟨_, rfl⟩
  · rcases hB with ⟨oB, rfl, rfl, rfl, rfl, rfl⟩ | ⟨_, rfl⟩
    · have oA' := oA
      have oB' := oB
      unfold okL at oA' oB'
      obtain ⟨q, tp, hq⟩ : ∃ q : Int, p.tmod 148 = q ∧ 0 ≤ q ∧ q < 148 := ⟨p % 148, by rw [Int.tmod_eq_emod_of_nonneg k5.1], by omega, by omega⟩
      obtain ⟨k, hk⟩ : ∃ k : Nat, 12 + q = (k : Int) := ⟨(12 + q).toNat, by omega⟩
      have hr2 : (b == b2 && (i == i2 && ((3 : Int) == 3 && (3 + (i + 4) / 5 == 3 + (i2 + 4) / 5 && true)))) = decide (lb b i = lb b2 i2) := by
        by_cases hh : lb b i = lb b2 i2
        · have e1 : b = b2 := by rw [← num_lb1 b i (by omega), hh, num_lb1 b2 i2 (by omega)]
          have e2 : i = i2 := by rw [← num_lb2 b i (by omega), hh, num_lb2 b2 i2 (by omega)]
          subst e1 e2
          simp
        · have : ¬ (b = b2 ∧ i = i2) := fun h => hh (by rw [h.1, h.2])
          simp only [hh, decide_false]
          by_cases h1 : b = b2
          · have h2 : ¬ i = i2 := fun h => this ⟨h1, h⟩
            simp [h2]
          · simp [h1]
      have hz := lb_rest b i k (by omega)
      by_cases ho : ov = 0
      · have hs : (lb b i).set k ov = lb b i := by
          have := set_same (lb b i) k (by rw [length_lb]; omega)
          rw [hz] at this
          rw [ho]; exact this
        exact forms_same b i b2 i2 p ov b i 3 _ 0 b2 i2 3 _ 0 q _ k _ w k1 k2 k3 k4 k5 k6 ⟨rfl⟩ ⟨rfl⟩ ⟨rfl, rfl⟩ (by omega) (by omega) (by omega) (by omega) ⟨rfl⟩ ⟨hr2⟩ tp hq hk ⟨rfl⟩ ⟨ho⟩ CN CM
          ⟨fun x p c hp => get_is p 160 c _ b i 3 _ 0 x hp (by rw [hs]; exact getV_lb b i oA)⟩
      · exact forms_other b i b2 i2 p ov b i 3 _ 0 b2 i2 3 _ 0 q _ k _ w k1 k2 k3 k4 k5 k6 ⟨rfl⟩ ⟨rfl⟩ ⟨rfl, rfl⟩ (by omega) (by omega) (by omega) (by omega) ⟨rfl⟩ ⟨hr2⟩ tp hq hk ⟨rfl⟩ ⟨ho⟩ CN CM
          ⟨fun x p c hp => get_is p 160 c _ 0 0 0 0 11 x hp (getV_not _ (fun hh => ho (by
            have h9 := lb_rest (num ((lb b i).set k ov) 4 4) (num ((lb b i).set k ov) 8 4) k (by omega)
            rw [← hh.2.2] at h9
            have hl := length_lb b i
            have hkl : k < (lb b i).length := by omega
            simpa [List.getD, hkl] using h9)))⟩
    · exact forms_two b i c d0 p ov b i 3 _ 0 b2 i2 t2 d2 1 w k1 k2 k3 k4 ⟨rfl⟩ ⟨rfl⟩ CN CM
  · exact forms_one a b0 c d0 p ov b i t d 1 b2 i2 t2 d2 e2 w k1 k2 k3 k4 ⟨rfl⟩ CN CM
end Go.Proofs.Ytniminalkjhfbaa
