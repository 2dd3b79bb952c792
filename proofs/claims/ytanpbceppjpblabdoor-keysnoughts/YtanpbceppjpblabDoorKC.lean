/-
  What the laws' awake of layer 3 answers.
-/
import Derived.Test.YtanpbceppjpblabDoorKB
import Derived.Test.YtanpbceppjpblabDoorKV
namespace Go.Proofs.YtanpbceppjpblabDoor
set_option linter.unusedVariables false
open Go.RowKit Plain

theorem neq25 (X Y : List Int) (hX : X.length = 32) (hY : Y.length = 32) (w : World) : (binOp .neq 25 (.agg (u8s X)) (.agg (u8s Y))).run Tryd.prog w = .ok (.bool (!decide (X = Y))) w := by
  obtain ⟨i0, hi, _⟩ := info_parts info5
  rw [run_neq_struct, show (10000 : Nat) = 9999 + 1 from rfl, run_equalIn_array w 9999 (u8s X) (u8s Y) Tryd.underlying25 hi, eq_items X Y w hX hY _ (by simp), all_eq X Y hX hY]
  rfl
theorem make31 (w : World) : (Instr.makeSlice 22 (.int .i64 31) (.int .i64 31)).run Tryd.prog w = .ok (.slice (some ⟨w.heap.size, 0, none⟩) 31 31) (w.alloc (.cells (fil8 [] 31) 5)) := by kernel_rfl
theorem make32 (w : World) : (Instr.makeSlice 22 (.int .i64 32) (.int .i64 32)).run Tryd.prog w = .ok (.slice (some ⟨w.heap.size, 0, none⟩) 32 32) (w.alloc (.cells (fil8 [] 32) 5)) := by kernel_rfl
theorem made_pc (x : World) (n : Nat) (hn : n ≤ 1000) : (⟨some ⟨x.heap.size, 0, none⟩, n, n, List.replicate n 0⟩ : Pc).ok (x.alloc (.cells (fil8 [] n) 5)) := by
  have h : (x.alloc (.cells (fil8 [] n) 5)).heap[x.heap.size]? = some (.cells (u8s (List.replicate n 0)) 5 (0, 0)) := by
    have := al_at (w := x) (o := .cells (fil8 [] n) 5) rfl
    simpa [fil8] using this
  have hb := bytes_of_row (byt_zeros n) h
  rw [List.length_replicate] at hb
  exact ⟨hb, Nat.le_refl _, by show n ≤ _; omega⟩
theorem nums_a : nums { data := #[97] } = [97] := rfl
theorem derS_a : derS nought32 { data := #[97] } = keyA ∧ derE nought32 { data := #[97] } = 0 := by
  constructor
  · rw [derS, if_pos ⟨by simp [nought32], by decide, by decide⟩, nums_a]; rfl
  · rw [derE, if_pos ⟨by simp [nought32], by decide, by decide⟩]
theorem derS_h : derS nought32 (lab 0) = keyH := by
  rw [derS, if_pos ⟨by simp [nought32], size_lab 0⟩]; rfl
theorem derS_j : derS nought32 (lab 1) = keyJ := by
  rw [derS, if_pos ⟨by simp [nought32], size_lab 1⟩]; rfl
theorem call31 (x : World) (hT : Tabs x) : Calls Tryd.prog 10 #[.slice (some ⟨x.heap.size, 0, none⟩) 31 31, .string { data := #[97] }] (x.alloc (.cells (fil8 [] 31) 5)) fun e w' => e = .returned (.tuple #[.agg (u8s nought32), .int .i64 1]) ∧ Below x.heap.size x w' := by
  have hb : Below x.heap.size x (x.alloc (.cells (fil8 [] 31) 5)) := (Below.refl _ _).alloc (Nat.le_refl _) _
  have h := derive_any _ 31 31 (List.replicate 31 0) { data := #[97] } _ (hT.below hb) (made_pc x 31 (by omega)) (by decide) (by decide)
  rw [(derE_no (List.replicate 31 0) (by simp) _).1, (derE_no (List.replicate 31 0) (by simp) _).2] at h
  exact h.mono fun e w' ⟨he, hw⟩ => ⟨he, hb.trans (hw.mono hb.size)⟩
theorem call32 (x : World) (hT : Tabs x) : Calls Tryd.prog 10 #[.slice (some ⟨x.heap.size, 0, none⟩) 32 32, .string { data := #[97] }] (x.alloc (.cells (fil8 [] 32) 5)) fun e w' => e = .returned (.tuple #[.agg (u8s keyA), .int .i64 0]) ∧ Below x.heap.size x w' := by
  have hb : Below x.heap.size x (x.alloc (.cells (fil8 [] 32) 5)) := (Below.refl _ _).alloc (Nat.le_refl _) _
  have h := derive_any _ 32 32 nought32 { data := #[97] } _ (hT.below hb) (made_pc x 32 (by omega)) (by decide) (by decide)
  rw [derS_a.1, derS_a.2] at h
  exact h.mono fun e w' ⟨he, hw⟩ => ⟨he, hb.trans (hw.mono hb.size)⟩
theorem callOf (x : World) (hT : Tabs x) : Calls Tryd.prog 12 #[.slice (some ⟨x.heap.size, 0, none⟩) 32 32] (x.alloc (.cells (fil8 [] 32) 5)) fun e w' => e = .returned (.tuple #[.agg (u8s (kl nought32 3)), .int .i64 0]) ∧ Below x.heap.size x w' := by
  have hb : Below x.heap.size x (x.alloc (.cells (fil8 [] 32) 5)) := (Below.refl _ _).alloc (Nat.le_refl _) _
  have h := kof_any _ 32 32 nought32 _ (hT.below hb) (made_pc x 32 (by omega)) (by decide)
  rw [derE_lab nought32 (by simp [nought32])] at h
  exact h.mono fun e w' ⟨he, hw⟩ => ⟨he, hb.trans (hw.mono hb.size)⟩
theorem callMac (x : World) (hT : Tabs x) : Calls Tryd.prog 8 #[.slice none 0 0, .slice none 0 0] x fun e w' => e = .returned (.agg (u8s macN)) ∧ Below x.heap.size x w' :=
  mac_any none none 0 0 0 0 [] [] x hT (Pc.none_ok x) (Pc.none_ok x) (by omega) (by omega)
/-- A digest built out of nothing, behind a guard that is met. -/
theorem wpList_wbuild25 {ops : Array Oper} {rest : List Oper} {o : Oper} {a : Act} {w : World} {Q : Exit → Act → World → Prop} (hw : Region.wanted o (yielded ops a.tmps) = true) (ho : o.op = .build 25 #[])
    (h : wpList Tryd.prog ops Q rest (a.put o.dst (.agg (fil8 [] 32))) w) : wpList Tryd.prog ops Q (o :: rest) a w := by
  have e : Tryd.prog.built 25 ((#[] : Array (Nat × Operand)).map fun (i, x) => (i, a.eval x)).toList = some (fil8 [] 32) := by
    simpa using built25
  refine BigFrame.wpList_want hw fun _ hK => wp_build 25 _ ho ?_ ?_
  · rw [e]; rfl
  · rw [e]; exact hK _ _ h
/-- A digest read out of the middle of a block, behind a guard that is met. -/
theorem wpList_wmid25 {ops : Array Oper} {rest : List Oper} {op : Oper} {a : Act} {w : World} {Q : Exit → Act → World → Prop} (X : List Int) (hX : X.length = 32) (x : Operand) (ho : op.op = .load 25 x)
    (g o : Nat) (hx : a.eval x = .pointer (some ⟨g, o, none⟩)) (hr : w.rangeAt g o (X.map (Value.int .u8))) (hw : Region.wanted op (yielded ops a.tmps) = true)
    (h : wpList Tryd.prog ops Q rest (a.put op.dst (.agg (u8s X))) w) : wpList Tryd.prog ops Q (op :: rest) a w :=
  BigFrame.wpList_want hw fun _ hK => wp_load_mid 25 x ho g o hx (X.map (Value.int .u8)) _ hr Tryd.underlying25 rfl (by rw [List.length_map, hX]; kernel_rfl) (hK _ _ h)
/-- A row of keys laid into a new block. -/
theorem wpList_newK {ops : Array Oper} {rest : List Oper} {o : Oper} {a : Act} {v : World} {Q : Exit → Act → World → Prop} (w : World) (X : List Int) (hX : X.length = 96) (hgd : o.guard = none) (x y : Operand) (ho : o.op = .store 32 x y)
    (hx : a.eval x = .pointer (some ⟨w.heap.size, 0, none⟩)) (hy : a.eval y = .agg (u8s X)) (hv : v = w.alloc (.cells (fil8 [] 96) 32))
    (h : ∀ z, Box (z.heap[w.heap.size]? = some (.cells (u8s X) 32 (0, 0)) ∧ Below w.heap.size w z) → wpList Tryd.prog ops Q rest (a.put o.dst undef) z) : wpList Tryd.prog ops Q (o :: rest) a v := by
  subst hv
  have hs : (u8s X).size = 96 := by rw [size_u8s, hX]
  exact wpList_store_row hgd 32 x y ho w.heap.size (u8s X) hx hy 32 (fil8 [] 96) (al_at rfl) (by rw [hs]; kernel_rfl) (by rw [hs]; rfl) (all_u8s X) (h _ ⟨setRow_heap _ _ _ _ _ _ (al_at rfl), below_setRow ((Below.refl _ _).alloc (Nat.le_refl _) _) (Nat.le_refl _) _⟩)
theorem kl_ranges {w : World} {g : Nat} {K : List Int} (hg : w.heap[g]? = some (.cells (u8s (kl K 3)) 32 (0, 0))) :
    w.rangeAt g 0 ((derS K (lab 0)).map (Value.int .u8)) ∧ w.rangeAt g 32 ((derS K (lab 1)).map (Value.int .u8)) ∧ w.rangeAt g 64 ((derS K (lab 2)).map (Value.int .u8)) := by
  have l0 := length_derS K (lab 0)
  have l1 := length_derS K (lab 1)
  have l2 := length_derS K (lab 2)
  have e : kl K 3 = derS K (lab 0) ++ derS K (lab 1) ++ derS K (lab 2) := rfl
  rw [e] at hg
  refine ⟨range_row 0 _ hg (fun i hi => ?_), range_row 32 _ hg (fun i hi => ?_), range_row 64 _ hg (fun i hi => ?_)⟩
  · rw [Nat.zero_add, List.append_assoc, List.getElem?_append_left hi]
  · rw [List.append_assoc, List.getElem?_append_right (by omega), List.getElem?_append_left (by omega), l0]; congr 1; omega
  · rw [List.getElem?_append_right (by simp [l0, l1]), List.length_append, l0, l1]; congr 1; omega

set_option maxRecDepth 20000 in
set_option maxHeartbeats 1000000 in
theorem awake_any (w : World) (hT : Tabs w) :
    Calls Tryd.prog 7 #[] w fun e w' => e = .returned (.bool true) ∧ Below w.heap.size w w' := by
  obtain ⟨Z, HZ⟩ : ∃ X, Box (nought32 = X) := named _
  obtain ⟨A, HA⟩ : ∃ X, Box (keyA = X) := named _
  obtain ⟨KL, HK⟩ : ∃ X, Box (kl nought32 3 = X) := named _
  obtain ⟨D0, HD0⟩ : ∃ X, Box (keyH = X) := named _
  obtain ⟨D1, HD1⟩ : ∃ X, Box (keyJ = X) := named _
  obtain ⟨N, HN⟩ : ∃ X, Box (macN = X) := named _
  have hZl : Z.length = 32 := by rw [← HZ.out]; simp [nought32]
  have hAl : A.length = 32 := by rw [← HA.out]; exact length_mac _ _
  have hD0l : D0.length = 32 := by rw [← HD0.out]; exact length_mac _ _
  have hD1l : D1.length = 32 := by rw [← HD1.out]; exact length_mac _ _
  have hNl : N.length = 32 := by rw [← HN.out]; exact length_mac _ _
  have hKl : KL.length = 96 := by rw [← HK.out]; exact length_kl _ _
  have q1 := neq25 A Z hAl hZl
  have q2 := neq25 D0 D1 hD0l hD1l
  have q3 := neq25 N Z hNl hZl
  rw [← HA.out, ← HZ.out, keyA_ne, HA.out, HZ.out] at q1
  rw [← HD0.out, ← HD1.out, keyHJ_ne, HD0.out, HD1.out] at q2
  rw [← HN.out, ← HZ.out, macN_ne, HN.out, HZ.out] at q3
  have HF : Box (fil8 [] 32 = u8s Z) := ⟨by rw [← HZ.out]; rfl⟩
  have HR : Box (∀ (x : World) (g : Nat), x.heap[g]? = some (.cells (u8s KL) 32 (0, 0)) → x.rangeAt g 0 (D0.map (Value.int .u8)) ∧ x.rangeAt g 32 (D1.map (Value.int .u8))) := ⟨fun x g hx => by
    rw [← HK.out] at hx
    have := kl_ranges hx
    rw [derS_h, derS_j, HD0.out, HD1.out] at this
    exact ⟨this.1, this.2.1⟩⟩
  have C1 : Box (∀ x, Tabs x → Calls Tryd.prog 10 #[.slice (some ⟨x.heap.size, 0, none⟩) 31 31, .string { data := #[97] }] (x.alloc (.cells (fil8 [] 31) 5)) fun e w' => e = .returned (.tuple #[.agg (u8s Z), .int .i64 1]) ∧ Below x.heap.size x w') := ⟨fun x hx => by rw [← HZ.out]; exact call31 x hx⟩
  have C2 : Box (∀ x, Tabs x → Calls Tryd.prog 10 #[.slice (some ⟨x.heap.size, 0, none⟩) 32 32, .string { data := #[97] }] (x.alloc (.cells (fil8 [] 32) 5)) fun e w' => e = .returned (.tuple #[.agg (u8s A), .int .i64 0]) ∧ Below x.heap.size x w') := ⟨fun x hx => by rw [← HA.out]; exact call32 x hx⟩
  have C3 : Box (∀ x, Tabs x → Calls Tryd.prog 12 #[.slice (some ⟨x.heap.size, 0, none⟩) 32 32] (x.alloc (.cells (fil8 [] 32) 5)) fun e w' => e = .returned (.tuple #[.agg (u8s KL), .int .i64 0]) ∧ Below x.heap.size x w') := ⟨fun x hx => by rw [← HK.out]; exact callOf x hx⟩
  have C4 : Box (∀ x, Tabs x → Calls Tryd.prog 8 #[.slice none 0 0, .slice none 0 0] x fun e w' => e = .returned (.agg (u8s N)) ∧ Below x.heap.size x w') := ⟨fun x hx => by rw [← HN.out]; exact callMac x hx⟩
  have HT : Box (∀ x, Below w.heap.size w x → Tabs x) := ⟨fun x hx => hT.below hx⟩
  have H0 : Box (Tabs w) := ⟨hT⟩
  have hmk1 := make31
  have hmk2 := make32
  have hzS := zeroS
  clear hT HZ HA HK HD0 HD1 HN
  go_enter Tryd.func7, Tryd.ntmps7
  go_wp2_with (first
    | (refine wpList_wbuild25 (by rfl) rfl ?_; rw [HF.out])
    | (go_at_call 8; refine Calls.mono (C4.out z3 (HT.out _ H3.out.2.2)) ?_; rintro e w4 ⟨rfl, hb4⟩; have H4 : Box (Below w.heap.size w w4) := ⟨below_to H3.out.2.2 hb4⟩; clear hb4)
    | (refine wpList_wmid25 D0 hD0l (.tmp 38) rfl w3.heap.size 0 rfl (HR.out _ _ H3.out.2.1).1 (by rfl) ?_)
    | (refine wpList_wmid25 D1 hD1l (.tmp 40) rfl w3.heap.size 32 rfl (HR.out _ _ H3.out.2.1).2 (by rfl) ?_)
    | (refine wpList_get25 A (by rw [size_u8s, hAl]) (.tmp 3) rfl w2.heap.size rfl (H3.out.1 _ (.head _)).2 (by rfl) ?_)
    | (refine wpList_newK w3 KL hKl rfl (.tmp 5) (.tmp 20) rfl rfl rfl ?hv ?_; (case hv => rfl); intro z3 H3'; have H3 : Box (Stand z3 [(w2.heap.size, A)] ∧ z3.heap[w3.heap.size]? = some (.cells (u8s KL) 32 (0, 0)) ∧ Below w.heap.size w z3) := ⟨HW3.out.1.below H3'.out.2, H3'.out.1, below_to HW3.out.2 H3'.out.2⟩; clear H3')
    | (go_at_call 12; refine Calls.mono (C3.out z2 (HT.out _ H2.out.2)) ?_; rintro e w3 ⟨rfl, hb3⟩; have HW3 : Box (Way w w3 [(w2.heap.size, A)]) := ⟨H2.out.on hb3⟩; clear hb3)
    | (refine wpList_new25 w w2 [] A hAl HW2.out ?old ?hold rfl (.tmp 3) (.tmp 15) rfl rfl rfl ?hv ?_; (case hv => rfl); (case hold => rfl); intro z2 H2)
    | (go_at_call 10; refine Calls.mono (C2.out z1 (HT.out _ H1.out.2)) ?_; rintro e w2 ⟨rfl, hb2⟩; have HW2 : Box (Way w w2 []) := ⟨Stand.nil _, below_to H1.out.2 hb2⟩; clear hb2)
    | (refine wpList_new25 w w1 [] Z hZl HW1.out ?old ?hold rfl (.tmp 1) (.tmp 10) rfl rfl rfl ?hv ?_; (case hv => rfl); (case hold => rfl); intro z1 H1)
    | (go_at_call 10; refine Calls.mono (C1.out w H0.out) ?_; rintro e w1 ⟨rfl, hb1⟩; have HW1 : Box (Way w w1 []) := ⟨Stand.nil _, hb1⟩; clear hb1))
  go_ret
  exact ⟨rfl, H4.out⟩
end Go.Proofs.YtanpbceppjpblabDoor
