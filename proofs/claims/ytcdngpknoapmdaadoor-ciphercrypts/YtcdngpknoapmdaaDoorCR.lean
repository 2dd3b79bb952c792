/-
  The walk of CipherCrypts: any bytes, laid over from any block on, are the reference's, or refused; so is the nonce of any place and version: the law returns true, in every memory that holds the package's table.
-/
import Derived.Test.YtcdngpknoapmdaaDoorRC
import Derived.Test.YtcdngpknoapmdaaDoorEQ
namespace Go.Proofs.YtcdngpknoapmdaaDoor
set_option linter.unusedVariables false
open Go.RowKit Plain

theorem exec_conv {o : Oper} {a : Act} {w' : World} {ad : Option Addr} {n c : Nat} {L : List Int} (x : Operand) (ho : o.op = .convert 31 9 x) (hx : a.eval x = .slice ad n c) (hB : Bytes w' ad n L) :
    (execOp a.eval o).run Tryd.prog w' = .ok (.value (.string (strOfNums L))) w' := by
  unfold execOp
  simp only [ho, hx, Sem.run_bind, Sem.run_pure, conv_bytes hB, Result.andThen_ok]

set_option maxRecDepth 20000 in
set_option maxHeartbeats 2000000 in
theorem crypts_core (K X C : List Int) (ctr place version er : Int) (a : Option Addr) (len cap l : Nat) (w : World) (hT : Tab w) (hKl : K.length = 32) (hXl : X.length = 12) (hl : len ≤ 1000)
    (C1 : Box (∀ x, Calls Tryd.prog 12 #[.int .u32 place, .int .u64 version] x fun e w' => e = .returned (.agg (u8s X)) ∧ Below x.heap.size x w'))
    (C4 : Box (∀ x, Calls Tryd.prog 15 #[.int .u32 place, .int .u64 version] x fun e w' => e = .returned (.agg (u8s X)) ∧ Below x.heap.size x w'))
    (C2 : Box (∀ x, Below w.heap.size w x → Calls Tryd.prog 13 #[.agg (u8s K), .int .u32 ctr, .agg (u8s X), .slice a len cap] x fun e w' => ∃ a' c', e = .returned (.tuple #[.slice a' l c', .int .i64 er]) ∧ Bytes w' a' l C ∧ Below x.heap.size x w'))
    (C3 : Box (∀ x, Below w.heap.size w x → Calls Tryd.prog 14 #[.agg (u8s K), .int .u32 ctr, .agg (u8s X), .slice a len cap] x fun e w' => ∃ a' c', e = .returned (.tuple #[.slice a' l c', .int .i64 er]) ∧ Bytes w' a' l C ∧ Below x.heap.size x w')) :
    Calls Tryd.prog 4 #[.agg (u8s K), .int .u32 ctr, .int .u32 place, .int .u64 version, .slice a len cap] w fun e w' => e = .returned (.bool true) ∧ Below w.heap.size w w' := by
  have d1 : ¬ 1000 < (len : Int) := by omega
  have q := eq12 X X hXl hXl
  rw [show decide (X = X) = true by simp] at q
  have HA : Box (∀ x, Below w.heap.size w x → Calls Tryd.prog 9 #[] x fun e w' => e = .returned (.bool true) ∧ Below x.heap.size x w') := ⟨fun x hx => awake_any x (hT.below hx)⟩
  obtain ⟨S, hS⟩ : ∃ S, w.heap.size = S := ⟨_, rfl⟩
  have HS : Hid (w.heap.size = S) := hS
  have H0 : Box ((w.alloc (.cells (u8s K) 23)).heap[S]? = some (.cells (u8s K) 23 (0, 0)) ∧ Below w.heap.size w (w.alloc (.cells (u8s K) 23))) := ⟨al_at hS, (Below.refl _ _).alloc (Nat.le_refl _) _⟩
  clear hS hT
  go_enter Tryd.func4, Tryd.ntmps4
  go_upto_region 1 with fail
  rw [HS.out]
  generalize w.alloc (.cells (u8s K) 23) = x0 at H0 ⊢
  go_upto_region 9 with (first
    | (go_at_call 14; refine Calls.mono (C3.out w3 H4.out.1) ?_; rintro e w4 ⟨a4, c4, rfl, hB, hb⟩; have H5' : Box (w4.heap[w2.heap.size]? = some (.cells (u8s X) 25 (0, 0)) ∧ Below w.heap.size w w4 ∧ Bytes w4 a3 l C ∧ Bytes w4 a4 l C) := ⟨row_on H4.out.2.2.1 hb, below_to H4.out.1 hb, H4.out.2.2.2.below hb, hB⟩; clear hB hb)
    | (refine wpList_seeNon w2.heap.size X hXl H4.out.2.2.1 rfl (.tmp 12) rfl rfl ?_)
    | (refine wpList_seeKey S K hKl H4.out.2.1 rfl (.tmp 5) rfl rfl ?_)
    | (go_at_call 13; refine Calls.mono (C2.out z2 H3.out.1) ?_; rintro e w3 ⟨a3, c3, rfl, hB, hb⟩; have H4 : Box (Below w.heap.size w w3 ∧ w3.heap[S]? = some (.cells (u8s K) 23 (0, 0)) ∧ w3.heap[w2.heap.size]? = some (.cells (u8s X) 25 (0, 0)) ∧ Bytes w3 a3 l C) := ⟨below_to H3.out.1 hb, row_on H3.out.2.1 hb, row_on H3.out.2.2 hb, hB⟩; clear hB hb)
    | (refine wpList_seeNon w2.heap.size X hXl H3.out.2.2 rfl (.tmp 12) rfl rfl ?_)
    | (refine wpList_seeKey S K hKl H3.out.2.1 rfl (.tmp 5) rfl rfl ?_)
    | (refine wpList_new8 25 12 size12 w2 X hXl ?old ?hold rfl (.tmp 12) (.tmp 25) rfl rfl rfl ?hv ?_; (case hv => rfl); (case hold => rfl); intro z2 hz hb; have H3 : Box (Below w.heap.size w z2 ∧ z2.heap[S]? = some (.cells (u8s K) 23 (0, 0)) ∧ z2.heap[w2.heap.size]? = some (.cells (u8s X) 25 (0, 0))) := ⟨below_to H2.out.2 hb, row_on H2.out.1 hb, hz⟩; clear hz hb)
    | (go_at_call 12; refine (C1.out w1).mono ?_; rintro e w2 ⟨rfl, hb⟩; have H2 : Box (w2.heap[S]? = some (.cells (u8s K) 23 (0, 0)) ∧ Below w.heap.size w w2) := ⟨row_on H1.out.1 hb, below_to H1.out.2 hb⟩; clear hb)
    | (go_at_call 9; refine (HA.out x0 H0.out.2).mono ?_; rintro e w1 ⟨rfl, hb⟩; have H1 : Box (w1.heap[S]? = some (.cells (u8s K) 23 (0, 0)) ∧ Below w.heap.size w w1) := ⟨row_on H0.out.1 hb, below_to H0.out.2 hb⟩; clear hb))
  obtain ⟨V, HV⟩ : ∃ V, Box (w2.heap.size = V) := ⟨_, ⟨rfl⟩⟩
  have H5 := H5'
  rw [HV.out] at H5 ⊢
  clear H5' C1 C2 C3 HA H0 H1 H2 H3 H4
  refine Seq.begin_any (by kernel_rfl) (fun wd hd => ?_)
  refine Seq.take_lat (i := 0) (v := .agg (u8s X)) rfl (by kernel_rfl) (by kernel_rfl) (by kernel_rfl) (fun _ _ _ h => h) (by rfl) (fun w' hLat => exec_load8 25 12 Tryd.underlying25 size12 (.tmp 12) rfl V rfl X hXl (row_on (row_on H5.out.1 hd) hLat)) ?_
  try simp only [Act.put, List.setIfInBounds_toArray, List.set_cons_zero, List.set_cons_succ, List.getElem_toArray, List.getElem_cons_zero]
  refine Seq.take_lat (i := 1) (v := ?_) rfl (by kernel_rfl) (by kernel_rfl) (by kernel_rfl) (fun _ _ _ h => h) (by rfl) ?_ ?_
  rotate_left
  · intro w' hLat; change Below _ _ _ at hLat; go_simp <;> with_reducible rfl
  try simp only [Act.put, List.setIfInBounds_toArray, List.set_cons_zero, List.set_cons_succ, List.getElem_toArray, List.getElem_cons_zero, List.getElem_cons_succ]
  refine Seq.take_lat (i := 2) (v := ?_) rfl (by kernel_rfl) (by kernel_rfl) (by kernel_rfl) (fun _ _ _ h => h) (by rfl) ?_ ?_
  rotate_left
  · intro w' hLat; change Below _ _ _ at hLat; go_simp <;> with_reducible rfl
  try simp only [Act.put, List.setIfInBounds_toArray, List.set_cons_zero, List.set_cons_succ, List.getElem_toArray, List.getElem_cons_zero, List.getElem_cons_succ]
  refine Seq.only_lat (i := 3) rfl (by kernel_rfl) (fun KK hK => ?_)
  rw [if_pos (by rfl)]
  go_simp
  refine Calls.mono (C4.out wd) ?_
  rintro e w6 ⟨rfl, hb6⟩
  have H6 : Box (Below w.heap.size w w6 ∧ Bytes w6 a3 l C ∧ Bytes w6 a4 l C) := ⟨below_to (below_to H5.out.2.1 hd) hb6, (H5.out.2.2.1.below hd).below hb6, (H5.out.2.2.2.below hd).below hb6⟩
  refine hK.out _ _ hb6 ?_
  clear hb6
  clear hK KK
  try simp only [Act.put, List.setIfInBounds_toArray, List.set_cons_zero, List.set_cons_succ, List.getElem_toArray, List.getElem_cons_zero, List.getElem_cons_succ]
  refine Seq.take_lat (i := 4) (v := ?_) rfl (by kernel_rfl) (by kernel_rfl) (by kernel_rfl) (fun _ _ _ h => h) (by rfl) ?_ ?_
  rotate_left
  · intro w' hLat; change Below _ _ _ at hLat; go_simp <;> with_reducible rfl
  try simp only [Act.put, List.setIfInBounds_toArray, List.set_cons_zero, List.set_cons_succ, List.getElem_toArray, List.getElem_cons_zero, List.getElem_cons_succ]
  refine Seq.take_lat (i := 5) (v := ?_) rfl (by kernel_rfl) (by kernel_rfl) (by kernel_rfl) (fun _ _ _ h => h) (by rfl) ?_ ?_
  rotate_left
  · intro w' hLat; change Below _ _ _ at hLat; go_simp <;> with_reducible rfl
  try simp only [Act.put, List.setIfInBounds_toArray, List.set_cons_zero, List.set_cons_succ, List.getElem_toArray, List.getElem_cons_zero, List.getElem_cons_succ]
  refine Seq.take_lat (i := 6) (v := ?_) rfl (by kernel_rfl) (by kernel_rfl) (by kernel_rfl) (fun _ _ _ h => h) (by rfl) ?_ ?_
  rotate_left
  · intro w' hLat; change Below _ _ _ at hLat; go_simp <;> with_reducible rfl
  try simp only [Act.put, List.setIfInBounds_toArray, List.set_cons_zero, List.set_cons_succ, List.getElem_toArray, List.getElem_cons_zero, List.getElem_cons_succ]
  refine Seq.take_lat (i := 7) (v := .string (strOfNums C)) rfl (by kernel_rfl) (by kernel_rfl) (by kernel_rfl) (fun _ _ _ h => h) (by rfl) (fun w' hLat => exec_conv (.tmp 48) rfl rfl (H6.out.2.1.below hLat)) ?_
  try simp only [Act.put, List.setIfInBounds_toArray, List.set_cons_zero, List.set_cons_succ, List.getElem_toArray, List.getElem_cons_zero, List.getElem_cons_succ]
  refine Seq.take_lat (i := 8) (v := ?_) rfl (by kernel_rfl) (by kernel_rfl) (by kernel_rfl) (fun _ _ _ h => h) (by rfl) ?_ ?_
  rotate_left
  · intro w' hLat; change Below _ _ _ at hLat; go_simp <;> with_reducible rfl
  try simp only [Act.put, List.setIfInBounds_toArray, List.set_cons_zero, List.set_cons_succ, List.getElem_toArray, List.getElem_cons_zero, List.getElem_cons_succ]
  refine Seq.take_lat (i := 9) (v := .string (strOfNums C)) rfl (by kernel_rfl) (by kernel_rfl) (by kernel_rfl) (fun _ _ _ h => h) (by rfl) (fun w' hLat => exec_conv (.tmp 50) rfl rfl (H6.out.2.2.below hLat)) ?_
  try simp only [Act.put, List.setIfInBounds_toArray, List.set_cons_zero, List.set_cons_succ, List.getElem_toArray, List.getElem_cons_zero, List.getElem_cons_succ]
  refine Seq.take_lat (i := 10) (v := ?_) rfl (by kernel_rfl) (by kernel_rfl) (by kernel_rfl) (fun _ _ _ h => h) (by rfl) ?_ ?_
  rotate_left
  · intro w' hLat; change Below _ _ _ at hLat; go_simp <;> with_reducible rfl
  try simp only [Act.put, List.setIfInBounds_toArray, List.set_cons_zero, List.set_cons_succ, List.getElem_toArray, List.getElem_cons_zero, List.getElem_cons_succ]
  refine Seq.take_lat (i := 11) (v := ?_) rfl (by kernel_rfl) (by kernel_rfl) (by kernel_rfl) (fun _ _ _ h => h) (by rfl) ?_ ?_
  rotate_left
  · intro w' hLat; change Below _ _ _ at hLat; go_simp <;> with_reducible rfl
  try simp only [Act.put, List.setIfInBounds_toArray, List.set_cons_zero, List.set_cons_succ, List.getElem_toArray, List.getElem_cons_zero, List.getElem_cons_succ]
  refine Seq.take_lat (i := 12) (v := ?_) rfl (by kernel_rfl) (by kernel_rfl) (by kernel_rfl) (fun _ _ _ h => h) (by rfl) ?_ ?_
  rotate_left
  · intro w' hLat; change Below _ _ _ at hLat; go_simp <;> with_reducible rfl
  try simp only [Act.put, List.setIfInBounds_toArray, List.set_cons_zero, List.set_cons_succ, List.getElem_toArray, List.getElem_cons_zero, List.getElem_cons_succ]
  refine Seq.take_lat (i := 13) (v := ?_) rfl (by kernel_rfl) (by kernel_rfl) (by kernel_rfl) (fun _ _ _ h => h) (by rfl) ?_ ?_
  rotate_left
  · intro w' hLat; change Below _ _ _ at hLat; go_simp <;> with_reducible rfl
  try simp only [Act.put, List.setIfInBounds_toArray, List.set_cons_zero, List.set_cons_succ, List.getElem_toArray, List.getElem_cons_zero, List.getElem_cons_succ]
  refine Seq.take_lat (i := 14) (v := ?_) rfl (by kernel_rfl) (by kernel_rfl) (by kernel_rfl) (fun _ _ _ h => h) (by rfl) ?_ ?_
  rotate_left
  · intro w' hLat; change Below _ _ _ at hLat; go_simp <;> with_reducible rfl
  try simp only [Act.put, List.setIfInBounds_toArray, List.set_cons_zero, List.set_cons_succ, List.getElem_toArray, List.getElem_cons_zero, List.getElem_cons_succ]
  refine Seq.take_lat (i := 15) (v := ?_) rfl (by kernel_rfl) (by kernel_rfl) (by kernel_rfl) (fun _ _ _ h => h) (by rfl) ?_ ?_
  rotate_left
  · intro w' hLat; change Below _ _ _ at hLat; go_simp <;> with_reducible rfl
  try simp only [Act.put, List.setIfInBounds_toArray, List.set_cons_zero, List.set_cons_succ, List.getElem_toArray, List.getElem_cons_zero, List.getElem_cons_succ]
  refine Seq.take_lat (i := 16) (v := ?_) rfl (by kernel_rfl) (by kernel_rfl) (by kernel_rfl) (fun _ _ _ h => h) (by rfl) ?_ ?_
  rotate_left
  · intro w' hLat; change Below _ _ _ at hLat; go_simp <;> with_reducible rfl
  try simp only [Act.put, List.setIfInBounds_toArray, List.set_cons_zero, List.set_cons_succ, List.getElem_toArray, List.getElem_cons_zero, List.getElem_cons_succ]
  refine Seq.take_lat (i := 17) (v := ?_) rfl (by kernel_rfl) (by kernel_rfl) (by kernel_rfl) (fun _ _ _ h => h) (by rfl) ?_ ?_
  rotate_left
  · intro w' hLat; change Below _ _ _ at hLat; go_simp <;> with_reducible rfl
  try simp only [Act.put, List.setIfInBounds_toArray, List.set_cons_zero, List.set_cons_succ, List.getElem_toArray, List.getElem_cons_zero, List.getElem_cons_succ]
  refine wpAnyH_done (by kernel_rfl) ?_ _
  go_wp2
  go_ret
  exact ⟨rfl, H6.out.1⟩

set_option maxRecDepth 20000 in
set_option maxHeartbeats 1000000 in
theorem crypts_long (K : List Int) (ctr place version : Int) (a : Option Addr) (len cap : Nat) (w : World) (hT : Tab w) (hm : len ≤ maxLen) (hl : 1000 < (len : Int)) :
    Calls Tryd.prog 4 #[.agg (u8s K), .int .u32 ctr, .int .u32 place, .int .u64 version, .slice a len cap] w fun e w' => e = .returned (.bool true) ∧ Below w.heap.size w w' := by
  unfold maxLen at hm
  have H0 : Box (Below w.heap.size w (w.alloc (.cells (u8s K) 23))) := ⟨(Below.refl _ _).alloc (Nat.le_refl _) _⟩
  have HA : Box (∀ x, Below w.heap.size w x → Calls Tryd.prog 9 #[] x fun e w' => e = .returned (.bool true) ∧ Below x.heap.size x w') := ⟨fun x hx => awake_any x (hT.below hx)⟩
  clear hT
  go_enter Tryd.func4, Tryd.ntmps4
  go_upto_region 1 with fail
  generalize w.alloc (.cells (u8s K) 23) = x0 at H0 ⊢
  go_wp2_with (go_at_call 9; refine (HA.out x0 H0.out).mono ?_; rintro e w1 ⟨rfl, hb1⟩; have H1 : Box (Below w.heap.size w w1) := ⟨below_to H0.out hb1⟩; clear hb1)
  go_ret
  exact ⟨rfl, H1.out⟩

theorem cipherCrypts_walk (K : List Int) (ctr place version : Int) (a : Option Addr) (len cap : Nat) (zs : List Int) (W : World) (hT : Tab W) (hKl : K.length = 32) (hKb : Byt K) (w1 : (Lit.int .u32 ctr).wf = true) (w2 : (Lit.int .u32 place).wf = true) (w3 : (Lit.int .u64 version).wf = true) (hR : IsRow .u8 W a len cap zs) :
    Calls Tryd.prog 4 #[.agg (u8s K), .int .u32 ctr, .int .u32 place, .int .u64 version, .slice a len cap] W fun e w' => e = .returned (.bool true) ∧ Below W.heap.size W w' := by
  have b1 := bounds_u32 w1
  have b2 := bounds_u32 w2
  have b3 := bounds_u64 w3
  have hB := hR.bytes
  have hp : W32 place := ⟨by omega, by omega⟩
  have hc : W32 ctr := ⟨by omega, by omega⟩
  by_cases hl : len ≤ 1000
  · have hXl := length_non place version
    have hXb := byt_non place version
    by_cases h : ctr + ((len + 63) / 64 : Nat) ≤ 4294967296
    · refine crypts_core K (non place version) (cr K ctr (non place version) (zs.take len) len) ctr place version 0 a len cap len W hT hKl hXl hl ⟨fun x => nonce_any place version x hp b3⟩ ⟨fun x => rnonce_any place version x hp b3⟩ ⟨fun x hx => ?_⟩ ⟨fun x hx => ?_⟩
      · exact (crypt_ok a len cap K _ _ ctr x hKb hKl hXb hXl hc (hT.below hx) (hB.below hx) (by omega) h).mono fun e w' ⟨a', he, h1, h2⟩ => ⟨a', _, he, h1, h2⟩
      · exact rcrypt_ok a len cap K _ _ ctr x hKb hKl hXb hXl hc (hB.below hx) (by omega) h
    · have hz : ∀ x : World, Bytes x none 0 [] := fun x => ⟨rfl, byt_nil, fun h => by omega⟩
      refine crypts_core K (non place version) [] ctr place version 1 a len cap 0 W hT hKl hXl hl ⟨fun x => nonce_any place version x hp b3⟩ ⟨fun x => rnonce_any place version x hp b3⟩ ⟨fun x hx => ?_⟩ ⟨fun x hx => ?_⟩
      · exact (crypt_no a len cap K _ ctr x hc (by omega) (by omega)).mono fun e w' ⟨he, h2⟩ => ⟨none, 0, he, hz _, h2⟩
      · exact (rcrypt_no a len cap K _ ctr x hc (by omega) (by omega)).mono fun e w' ⟨he, h2⟩ => ⟨none, 0, he, hz _, h2⟩
  · exact crypts_long K ctr place version a len cap W hT hR.len (by omega)
end Go.Proofs.YtcdngpknoapmdaaDoor
