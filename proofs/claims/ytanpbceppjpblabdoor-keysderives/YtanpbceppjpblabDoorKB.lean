/-
  What the Go function Of of package keys answers: the three keys of a file system, for all master keys.
-/
import Derived.Test.YtanpbceppjpblabDoorKA
namespace Go.Proofs.YtanpbceppjpblabDoor
set_option linter.unusedVariables false
open Go.RowKit Plain

def lab : Nat → ByteArray
  | 0 => { data := #[104, 111, 109, 101] }
  | 1 => { data := #[106, 111, 117, 114, 110, 97, 108] }
  | _ => { data := #[99, 104, 101, 99, 107] }
theorem lab0 : lab 0 = { data := #[104, 111, 109, 101] } := rfl
theorem lab1 : lab 1 = { data := #[106, 111, 117, 114, 110, 97, 108] } := rfl
theorem lab2 : lab 2 = { data := #[99, 104, 101, 99, 107] } := rfl
theorem size_lab (k : Nat) : 1 ≤ (lab k).size ∧ (lab k).size ≤ 64 := by
  match k with
  | 0 => decide
  | 1 => decide
  | k + 2 => exact (by decide : 1 ≤ (lab 2).size ∧ (lab 2).size ≤ 64)
theorem index_lab0 (w : World) : (Instr.index 44 (.agg #[.string { data := #[104, 111, 109, 101] }, .string { data := #[106, 111, 117, 114, 110, 97, 108] }, .string { data := #[99, 104, 101, 99, 107] }]) (.int .i64 0)).run Tryd.prog w = .ok (.string { data := #[104, 111, 109, 101] }) w := by kernel_rfl
theorem index_lab1 (w : World) : (Instr.index 44 (.agg #[.string { data := #[104, 111, 109, 101] }, .string { data := #[106, 111, 117, 114, 110, 97, 108] }, .string { data := #[99, 104, 101, 99, 107] }]) (.int .i64 1)).run Tryd.prog w = .ok (.string { data := #[106, 111, 117, 114, 110, 97, 108] }) w := by kernel_rfl
theorem index_lab2 (w : World) : (Instr.index 44 (.agg #[.string { data := #[104, 111, 109, 101] }, .string { data := #[106, 111, 117, 114, 110, 97, 108] }, .string { data := #[99, 104, 101, 99, 107] }]) (.int .i64 2)).run Tryd.prog w = .ok (.string { data := #[99, 104, 101, 99, 107] }) w := by kernel_rfl
/-- The first k keys. -/
def kl (K : List Int) : Nat → List Int
  | 0 => []
  | k + 1 => kl K k ++ derS K (lab k)
theorem length_kl (K : List Int) (k : Nat) : (kl K k).length = 32 * k := by
  induction k with
  | zero => rfl
  | succ k ih => rw [kl, List.length_append, ih, length_derS]; omega
theorem byt_kl (K : List Int) (k : Nat) : Byt (kl K k) := by
  induction k with
  | zero => exact byt_nil
  | succ k ih => exact byt_app _ _ ih (byt_derS _ _)
theorem derE_lab (K : List Int) (h : K.length = 32) (k : Nat) : derE K (lab k) = 0 := by
  rw [derE, if_pos ⟨h, size_lab k⟩]
theorem derE_no (K : List Int) (h : K.length ≠ 32) (S : ByteArray) : derE K S = 1 ∧ derS K S = List.replicate 32 0 := by
  constructor
  · rw [derE, if_neg (fun h' => h h'.1)]
  · rw [derS, if_neg (fun h' => h h'.1)]
theorem kl_no (K : List Int) (h : K.length ≠ 32) : kl K 3 = List.replicate 96 0 := by
  rw [kl, kl, kl, kl, (derE_no K h _).2, (derE_no K h _).2, (derE_no K h _).2]
  rfl
/-- What the blocks of Of hold behind k keys. -/
def OSt (w x : World) (K : List Int) (k : Nat) : Prop := x.heap[w.heap.size]? = some (.cells (fil8 [] 96) 32 (0, 0)) ∧ x.heap[w.heap.size + 1]? = some (.cells (fil8 (kl K k) 96) 43 (0, 0)) ∧ Below w.heap.size w x
theorem OSt.on {w x y : World} {K : List Int} {k : Nat} (h : OSt w x K k) (hb : Below x.heap.size x y) : OSt w y K k :=
  ⟨(hb.block _ (Array.getElem?_eq_some_iff.1 h.1).1).trans h.1, (hb.block _ (Array.getElem?_eq_some_iff.1 h.2.1).1).trans h.2.1, h.2.2.trans (hb.mono h.2.2.size)⟩
theorem os_there {w x : World} {K : List Int} {k : Nat} (h : OSt w x K k) (o : Nat) (ho : o + 32 ≤ 96) (n : Nat) (hn : n = 32) : x.there (w.heap.size + 1) o n := by
  subst hn
  have h1 := h.2.1
  refine there_row h1 ?_
  rw [fil8, size_u8s, List.length_append, List.length_replicate, length_kl]
  omega
theorem os_step {w z : World} {K : List Int} (k : Nat) (D : List Int) (o : Nat) (ho : o = 32 * k) (hD : derS K (lab k) = D) (h : OSt w z K k) (hk : k < 3 := by decide) : OSt w (z.setCells (w.heap.size + 1) o (u8s D).toList) K (k + 1) := by
  subst ho
  have hDl : D.length = 32 := by rw [← hD]; exact length_derS _ _
  have hl := length_kl K k
  have hb : But (w.heap.size + 1) z (z.setCells (w.heap.size + 1) (32 * k) (u8s D).toList) := But.setCells _ _ (But.of_below (Below.refl _ _))
  have l0 := (Array.getElem?_eq_some_iff.1 h.1).1
  refine ⟨(hb.block _ l0 (by omega)).trans h.1, ?_, h.2.2.trans (hb.below (by omega) (by omega))⟩
  have h2 : z.heap[w.heap.size + 1]? = some (.cells (fil8 (kl K k) 96).toList.toArray 43 (0, 0)) := h.2.1
  have hs : (fil8 (kl K k) 96).toList.length = 96 := size_fil8 _ _ (by omega)
  have hu : (u8s D).toList = D.map (Value.int .u8) := rfl
  rw [setCells_row _ 43 _ _ _ _ h2 (by rw [hs, hu, List.length_map]; omega), hu]
  have := fil8_splice (kl K k) D 96 (by omega)
  rw [hl] at this
  rw [this, kl, hD]
theorem wpList_buildK {ops : Array Oper} {rest : List Oper} {o : Oper} {a : Act} {w : World} {Q : Exit → Act → World → Prop} (hg : o.guard = none) (x0 x1 x2 : Operand) (ho : o.op = .build 32 #[(0, x0), (1, x1), (2, x2)])
    (D0 D1 D2 : List Int) (l0 : D0.length = 32) (l1 : D1.length = 32) (l2 : D2.length = 32) (h0 : a.eval x0 = .agg (u8s D0)) (h1 : a.eval x1 = .agg (u8s D1)) (h2 : a.eval x2 = .agg (u8s D2))
    (h : wpList Tryd.prog ops Q rest (a.put o.dst (.agg (u8s (D0 ++ D1 ++ D2)))) w) : wpList Tryd.prog ops Q (o :: rest) a w := by
  have e : Tryd.prog.built 32 ((#[(0, x0), (1, x1), (2, x2)] : Array (Nat × Operand)).map fun (i, x) => (i, a.eval x)).toList = some (u8s (D0 ++ D1 ++ D2)) := by
    simp only [List.map_toArray, List.map_cons, List.map_nil, h0, h1, h2]
    exact built_keys D0 D1 D2 l0 l1 l2
  refine wpList_build hg 32 _ ho ?_ ?_
  · rw [e]; rfl
  · rw [e]; exact h
theorem wpList_buildN {ops : Array Oper} {rest : List Oper} {o : Oper} {a : Act} {w : World} {Q : Exit → Act → World → Prop} (hg : o.guard = none) (ho : o.op = .build 32 #[])
    (h : wpList Tryd.prog ops Q rest (a.put o.dst (.agg (fil8 [] 96))) w) : wpList Tryd.prog ops Q (o :: rest) a w := by
  have e : Tryd.prog.built 32 ((#[] : Array (Nat × Operand)).map fun (i, x) => (i, a.eval x)).toList = some (fil8 [] 96) := by
    simpa using built_none
  refine wpList_build hg 32 _ ho ?_ ?_
  · rw [e]; rfl
  · rw [e]; exact h
theorem wpList_buildL {ops : Array Oper} {rest : List Oper} {o : Oper} {a : Act} {w : World} {Q : Exit → Act → World → Prop} (hg : o.guard = none) (ho : o.op = .build 44 #[(0, .const (.string { data := #[104, 111, 109, 101] })), (1, .const (.string { data := #[106, 111, 117, 114, 110, 97, 108] })), (2, .const (.string { data := #[99, 104, 101, 99, 107] }))])
    (h : wpList Tryd.prog ops Q rest (a.put o.dst (.agg #[.string { data := #[104, 111, 109, 101] }, .string { data := #[106, 111, 117, 114, 110, 97, 108] }, .string { data := #[99, 104, 101, 99, 107] }])) w) : wpList Tryd.prog ops Q (o :: rest) a w := by
  have e : Tryd.prog.built 44 ((#[(0, .const (.string { data := #[104, 111, 109, 101] })), (1, .const (.string { data := #[106, 111, 117, 114, 110, 97, 108] })), (2, .const (.string { data := #[99, 104, 101, 99, 107] }))] : Array (Nat × Operand)).map fun (i, x) => (i, a.eval x)).toList = some #[.string { data := #[104, 111, 109, 101] }, .string { data := #[106, 111, 117, 114, 110, 97, 108] }, .string { data := #[99, 104, 101, 99, 107] }] := by kernel_rfl
  refine wpList_build hg 44 _ ho ?_ ?_
  · rw [e]; rfl
  · rw [e]; exact h
theorem os_start (w : World) (K : List Int) : OSt w ((w.alloc (.cells (fil8 [] 96) 32)).alloc (.cells (fil8 [] 96) 43)) K 0 :=
  ⟨al_old (al_at rfl), al_at (by simp), ((Below.refl _ _).alloc (Nat.le_refl _) _).alloc (by simp) _⟩
theorem zeroS (x : World) : (zeroValue 32).run Tryd.prog x = .ok (.agg (fil8 [] 96)) x := by kernel_rfl
theorem zero3 (x : World) : (zeroValue 43).run Tryd.prog x = .ok (.agg (fil8 [] 96)) x := by kernel_rfl

set_option maxRecDepth 20000 in
set_option maxHeartbeats 1000000 in
theorem kof_ok (a : Option Addr) (len cap : Nat) (K : List Int) (w : World) (hT : Tabs w) (hp : (⟨a, len, cap, K⟩ : Pc).ok w) (hl : len ≤ maxLen) (hK : K.length = 32) :
    Calls Tryd.prog 12 #[.slice a len cap] w fun e w' => e = .returned (.tuple #[.agg (u8s (kl K 3)), .int .i64 0]) ∧ Below w.heap.size w w' := by
  have HT : Box (∀ x, Below w.heap.size w x → Tabs x ∧ (⟨a, len, cap, K⟩ : Pc).ok x) := ⟨fun x hx => ⟨hT.below hx, hp.below hx⟩⟩
  have hzS := zeroS
  have hz3 := zero3
  have H0 : Box (OSt w ((w.alloc (.cells (fil8 [] 96) 32)).alloc (.cells (fil8 [] 96) 43)) K 0) := ⟨os_start w K⟩
  clear hT hp
  go_enter Tryd.func12, Tryd.ntmps12
  go_wp2_with (refine wpList_buildL rfl rfl ?_)
  go_loopw [10] (fun i wr => ∃ k : Nat, k ≤ 3 ∧ i = .int .i64 k ∧ Box (OSt w wr K k)) (fun i _ => 3 - (intOf i).toNat)
  case atStart => exact ⟨0, by omega, rfl, H0⟩
  case round =>
    clear H0
    obtain ⟨k, hk, rfl, HB⟩ := hrel
    rcases (by omega : k = 0 ∨ k = 1 ∨ k = 2 ∨ k = 3) with rfl | rfl | rfl | rfl
    · have hidx := index_lab0
      obtain ⟨D, HD⟩ : ∃ D, Box (derS K (lab 0) = D) := named _
      have hDl : D.length = 32 := by rw [← HD.out]; exact length_derS _ _
      have HC : Box (Calls Tryd.prog 10 #[.slice a len cap, .string (lab 0)] wr fun e w' => e = .returned (.tuple #[.agg (u8s D), .int .i64 0]) ∧ Below wr.heap.size wr w') := ⟨by
        have h := derive_any a len cap K (lab 0) wr (HT.out wr HB.out.2.2).1 (HT.out wr HB.out.2.2).2 hl (by decide)
        rw [HD.out, derE_lab K hK 0] at h
        exact h⟩
      rw [lab0] at HC
      go_wp2_with (first
        | (refine wpList_store_mid rfl 25 (.tmp 26) (.tmp 25) rfl (w.heap.size + 1) 0 (u8s D) rfl rfl (os_there H2.out 0 (by decide) _ (by rw [size_u8s, hDl])) (by rw [size_u8s, hDl]; kernel_rfl) (all_u8s D) ?_)
        | (refine wpList_get25 D (by rw [size_u8s, hDl]) (.tmp 7) rfl w1.heap.size rfl (H1.out.1 _ (.head _)).2 (by rfl) ?_)
        | (refine wpList_new25 _ w1 [] D hDl (show Way w1 w1 [] from ⟨Stand.nil _, Below.refl _ _⟩) ?old ?hold rfl (.tmp 7) (.tmp 18) rfl rfl rfl ?hv ?_; (case hv => rfl); (case hold => rfl); intro z1 H1; have H2 : Box (OSt w z1 K 0) := ⟨(HB1.out).on H1.out.2⟩)
        | (go_at_call 10; refine Calls.mono HC.out ?_; rintro e w1 ⟨rfl, hb1⟩; have HB1 : Box (OSt w w1 K 0) := ⟨HB.out.on hb1⟩; clear hb1))
      go_roundw
      case rel => exact ⟨1, by omega, by go_num, ⟨by have h := os_step 0 D 0 rfl HD.out H2.out; exact h⟩⟩
      case measure => simp [intOf]
    · have hidx := index_lab1
      obtain ⟨D, HD⟩ : ∃ D, Box (derS K (lab 1) = D) := named _
      have hDl : D.length = 32 := by rw [← HD.out]; exact length_derS _ _
      have HC : Box (Calls Tryd.prog 10 #[.slice a len cap, .string (lab 1)] wr fun e w' => e = .returned (.tuple #[.agg (u8s D), .int .i64 0]) ∧ Below wr.heap.size wr w') := ⟨by
        have h := derive_any a len cap K (lab 1) wr (HT.out wr HB.out.2.2).1 (HT.out wr HB.out.2.2).2 hl (by decide)
        rw [HD.out, derE_lab K hK 1] at h
        exact h⟩
      rw [lab1] at HC
      go_wp2_with (first
        | (refine wpList_store_mid rfl 25 (.tmp 26) (.tmp 25) rfl (w.heap.size + 1) 32 (u8s D) rfl rfl (os_there H2.out 32 (by decide) _ (by rw [size_u8s, hDl])) (by rw [size_u8s, hDl]; kernel_rfl) (all_u8s D) ?_)
        | (refine wpList_get25 D (by rw [size_u8s, hDl]) (.tmp 7) rfl w1.heap.size rfl (H1.out.1 _ (.head _)).2 (by rfl) ?_)
        | (refine wpList_new25 _ w1 [] D hDl (show Way w1 w1 [] from ⟨Stand.nil _, Below.refl _ _⟩) ?old ?hold rfl (.tmp 7) (.tmp 18) rfl rfl rfl ?hv ?_; (case hv => rfl); (case hold => rfl); intro z1 H1; have H2 : Box (OSt w z1 K 1) := ⟨(HB1.out).on H1.out.2⟩)
        | (go_at_call 10; refine Calls.mono HC.out ?_; rintro e w1 ⟨rfl, hb1⟩; have HB1 : Box (OSt w w1 K 1) := ⟨HB.out.on hb1⟩; clear hb1))
      go_roundw
      case rel => exact ⟨2, by omega, by go_num, ⟨by have h := os_step 1 D 32 rfl HD.out H2.out; exact h⟩⟩
      case measure => simp [intOf]
    · have hidx := index_lab2
      obtain ⟨D, HD⟩ : ∃ D, Box (derS K (lab 2) = D) := named _
      have hDl : D.length = 32 := by rw [← HD.out]; exact length_derS _ _
      have HC : Box (Calls Tryd.prog 10 #[.slice a len cap, .string (lab 2)] wr fun e w' => e = .returned (.tuple #[.agg (u8s D), .int .i64 0]) ∧ Below wr.heap.size wr w') := ⟨by
        have h := derive_any a len cap K (lab 2) wr (HT.out wr HB.out.2.2).1 (HT.out wr HB.out.2.2).2 hl (by decide)
        rw [HD.out, derE_lab K hK 2] at h
        exact h⟩
      rw [lab2] at HC
      go_wp2_with (first
        | (refine wpList_store_mid rfl 25 (.tmp 26) (.tmp 25) rfl (w.heap.size + 1) 64 (u8s D) rfl rfl (os_there H2.out 64 (by decide) _ (by rw [size_u8s, hDl])) (by rw [size_u8s, hDl]; kernel_rfl) (all_u8s D) ?_)
        | (refine wpList_get25 D (by rw [size_u8s, hDl]) (.tmp 7) rfl w1.heap.size rfl (H1.out.1 _ (.head _)).2 (by rfl) ?_)
        | (refine wpList_new25 _ w1 [] D hDl (show Way w1 w1 [] from ⟨Stand.nil _, Below.refl _ _⟩) ?old ?hold rfl (.tmp 7) (.tmp 18) rfl rfl rfl ?hv ?_; (case hv => rfl); (case hold => rfl); intro z1 H1; have H2 : Box (OSt w z1 K 2) := ⟨(HB1.out).on H1.out.2⟩)
        | (go_at_call 10; refine Calls.mono HC.out ?_; rintro e w1 ⟨rfl, hb1⟩; have HB1 : Box (OSt w w1 K 2) := ⟨HB.out.on hb1⟩; clear hb1))
      go_roundw
      case rel => exact ⟨3, by omega, by go_num, ⟨by have h := os_step 2 D 64 rfl HD.out H2.out; exact h⟩⟩
      case measure => simp [intOf]
    · obtain ⟨D0, HD0⟩ : ∃ D, Box (derS K (lab 0) = D) := named _
      obtain ⟨D1, HD1⟩ : ∃ D, Box (derS K (lab 1) = D) := named _
      obtain ⟨D2, HD2⟩ : ∃ D, Box (derS K (lab 2) = D) := named _
      have l0 : D0.length = 32 := by rw [← HD0.out]; exact length_derS _ _
      have l1 : D1.length = 32 := by rw [← HD1.out]; exact length_derS _ _
      have l2 : D2.length = 32 := by rw [← HD2.out]; exact length_derS _ _
      have HKL : Box (kl K 3 = D0 ++ D1 ++ D2) := ⟨by rw [kl, kl, kl, kl, HD0.out, HD1.out, HD2.out]; rfl⟩
      have hrow : wr.heap[w.heap.size + 1]? = some (.cells (u8s (D0 ++ D1 ++ D2)) 43 (0, 0)) := by
        have h := HB.out.2.1
        rw [fil8_full _ 96 (length_kl K 3), HKL.out] at h
        exact h
      have HR : Box (wr.rangeAt (w.heap.size + 1) 0 (D0.map (Value.int .u8)) ∧ wr.rangeAt (w.heap.size + 1) 32 (D1.map (Value.int .u8)) ∧ wr.rangeAt (w.heap.size + 1) 64 (D2.map (Value.int .u8))) := ⟨range_row 0 D0 hrow (fun i hi => by rw [Nat.zero_add, List.append_assoc, List.getElem?_append_left hi]),
        range_row 32 D1 hrow (fun i hi => by rw [List.append_assoc, List.getElem?_append_right (by omega), List.getElem?_append_left (by omega), l0]; congr 1; omega),
        range_row 64 D2 hrow (fun i hi => by rw [List.getElem?_append_right (by simp [l0, l1]), List.length_append, l0, l1]; congr 1; omega)⟩
      have hXs : (u8s (D0 ++ D1 ++ D2)).size = 96 := by rw [size_u8s]; simp [l0, l1, l2]
      obtain ⟨X, HX⟩ : ∃ X, Box (D0 ++ D1 ++ D2 = X) := named _
      have m0 : (D0.map (Value.int .u8)).length = 32 := by rw [List.length_map, l0]
      have m1 : (D1.map (Value.int .u8)).length = 32 := by rw [List.length_map, l1]
      have m2 : (D2.map (Value.int .u8)).length = 32 := by rw [List.length_map, l2]
      rw [HX.out] at hXs
      clear hrow
      go_wp2_with (first
        | (refine wpList_load_mid rfl 25 (.tmp 28) rfl (w.heap.size + 1) 0 rfl (D0.map (Value.int .u8)) _ HR.out.1 Tryd.underlying25 rfl (by rw [m0]; kernel_rfl) ?_)
        | (refine wpList_load_mid rfl 25 (.tmp 30) rfl (w.heap.size + 1) 32 rfl (D1.map (Value.int .u8)) _ HR.out.2.1 Tryd.underlying25 rfl (by rw [m1]; kernel_rfl) ?_)
        | (refine wpList_load_mid rfl 25 (.tmp 32) rfl (w.heap.size + 1) 64 rfl (D2.map (Value.int .u8)) _ HR.out.2.2 Tryd.underlying25 rfl (by rw [m2]; kernel_rfl) ?_)
        | (refine wpList_buildK rfl (.tmp 29) (.tmp 31) (.tmp 33) rfl D0 D1 D2 l0 l1 l2 rfl rfl rfl ?_; rw [HX.out])
        | (refine wpList_store_row rfl 32 (.tmp 2) (.tmp 34) rfl w.heap.size (u8s X) rfl rfl 32 (fil8 [] 96) HB.out.1 (by rw [hXs]; kernel_rfl) (by rw [hXs]; rfl) (all_u8s X) ?_))
      (try simp only [Exit.inBlock, Exit.then])
      refine bodyPost_ret (results_row_tmp (p := 2) (q := 3) (ty := 32) rfl _ _ w.heap.size 32 (u8s X) (0, 0) _ rfl (setRow_heap _ _ _ _ _ _ HB.out.1) Tryd.underlying32 rfl (by rw [hXs]; kernel_rfl)) rfl ?_
      exact ⟨by rw [HKL.out, HX.out]; rfl, below_setRow HB.out.2.2 (Nat.le_refl _) _⟩

set_option maxRecDepth 20000 in
set_option maxHeartbeats 1000000 in
theorem kof_no (a : Option Addr) (len cap : Nat) (K : List Int) (w : World) (hT : Tabs w) (hp : (⟨a, len, cap, K⟩ : Pc).ok w) (hl : len ≤ maxLen) (hK : K.length ≠ 32) :
    Calls Tryd.prog 12 #[.slice a len cap] w fun e w' => e = .returned (.tuple #[.agg (u8s (kl K 3)), .int .i64 1]) ∧ Below w.heap.size w w' := by
  have HT : Box (∀ x, Below w.heap.size w x → Tabs x ∧ (⟨a, len, cap, K⟩ : Pc).ok x) := ⟨fun x hx => ⟨hT.below hx, hp.below hx⟩⟩
  have hzS := zeroS
  have hz3 := zero3
  have H0 : Box (OSt w ((w.alloc (.cells (fil8 [] 96) 32)).alloc (.cells (fil8 [] 96) 43)) K 0) := ⟨os_start w K⟩
  have HKL : Box (u8s (kl K 3) = fil8 [] 96) := ⟨by rw [kl_no K hK]; rfl⟩
  clear hT hp
  go_enter Tryd.func12, Tryd.ntmps12
  go_wp2_with (refine wpList_buildL rfl rfl ?_)
  go_loopw [10] (fun i wr => i = .int .i64 0 ∧ Box (OSt w wr K 0)) (fun i _ => 3 - (intOf i).toNat)
  case atStart => exact ⟨rfl, H0⟩
  case round =>
    clear H0
    obtain ⟨rfl, HB⟩ := hrel
    have hidx := index_lab0
    have HC : Box (Calls Tryd.prog 10 #[.slice a len cap, .string (lab 0)] wr fun e w' => e = .returned (.tuple #[.agg (u8s (List.replicate 32 0)), .int .i64 1]) ∧ Below wr.heap.size wr w') := ⟨by
      have h := derive_any a len cap K (lab 0) wr (HT.out wr HB.out.2.2).1 (HT.out wr HB.out.2.2).2 hl (by decide)
      rw [(derE_no K hK _).1, (derE_no K hK _).2] at h
      exact h⟩
    rw [lab0] at HC
    obtain ⟨D, HD⟩ : ∃ D, Box (List.replicate 32 (0 : Int) = D) := named _
    have hDl : D.length = 32 := by rw [← HD.out]; simp
    rw [HD.out] at HC
    go_wp2_with (first
      | (refine wpList_buildN rfl rfl ?_)
      | (refine wpList_store_row rfl 32 (.tmp 2) (.tmp 22) rfl w.heap.size (fil8 [] 96) rfl rfl 32 (fil8 [] 96) H2.out.1 (by kernel_rfl) (by rfl) (all_u8s _) ?_)
      | (refine wpList_new25 _ w1 [] D hDl (show Way w1 w1 [] from ⟨Stand.nil _, Below.refl _ _⟩) ?old ?hold rfl (.tmp 7) (.tmp 18) rfl rfl rfl ?hv ?_; (case hv => rfl); (case hold => rfl); intro z1 H1; have H2 : Box (OSt w z1 K 0) := ⟨(HB1.out).on H1.out.2⟩)
      | (go_at_call 10; refine Calls.mono HC.out ?_; rintro e w1 ⟨rfl, hb1⟩; have HB1 : Box (OSt w w1 K 0) := ⟨HB.out.on hb1⟩; clear hb1))
    (try simp only [Exit.inBlock, Exit.then])
    refine bodyPost_ret (results_row_tmp (p := 2) (q := 3) (ty := 32) rfl _ _ w.heap.size 32 (fil8 [] 96) (0, 0) _ rfl (setRow_heap _ _ _ _ _ _ H2.out.1) Tryd.underlying32 rfl (by kernel_rfl)) rfl ?_
    exact ⟨by rw [HKL.out]; rfl, below_setRow H2.out.2.2 (Nat.le_refl _) _⟩
theorem kof_any (a : Option Addr) (len cap : Nat) (K : List Int) (w : World) (hT : Tabs w) (hp : (⟨a, len, cap, K⟩ : Pc).ok w) (hl : len ≤ maxLen) :
    Calls Tryd.prog 12 #[.slice a len cap] w fun e w' => e = .returned (.tuple #[.agg (u8s (kl K 3)), .int .i64 (derE K (lab 0))]) ∧ Below w.heap.size w w' := by
  by_cases h : K.length = 32
  · rw [derE_lab K h]; exact kof_ok a len cap K w hT hp hl h
  · rw [(derE_no K h _).1]; exact kof_no a len cap K w hT hp hl h
end Go.Proofs.YtanpbceppjpblabDoor
