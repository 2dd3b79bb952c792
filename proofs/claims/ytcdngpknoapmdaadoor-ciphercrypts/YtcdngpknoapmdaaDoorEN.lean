/-
  The walk of CipherEnds: as many blocks as the counter has left may be laid over, and no more: the law returns true, in every memory that holds the package's table.
-/
import Derived.Test.YtcdngpknoapmdaaDoorV1
import Derived.Test.YtcdngpknoapmdaaDoorFS
import Derived.Test.YtcdngpknoapmdaaDoorSeq
import Derived.Deep.OwnRows
namespace Go.Proofs.YtcdngpknoapmdaaDoor
set_option linter.unusedVariables false
open Go.RowKit Plain

theorem exec_load8 {o : Oper} {a : Act} {w' : World} (t : TypeId) (n : Nat) (hu : Tryd.prog.underlying t = some (.array n 5)) (ht : (Tryd.prog.info? t).map (·.size) = some n) (x : Operand) (ho : o.op = .load t x) (g : Nat) (hx : a.eval x = .pointer (some ⟨g, 0, none⟩)) (X : List Int) (hX : X.length = n) (hg : w'.heap[g]? = some (.cells (u8s X) t (0, 0))) :
    (execOp a.eval o).run Tryd.prog w' = .ok (.value (.agg (u8s X))) w' := by
  have hs : (u8s X).size = n := by rw [size_u8s, hX]
  unfold execOp
  simp only [ho, hx, Instr.loadAt, Instr.sureAddr, Sem.run_bind, Sem.run_pure, Result.andThen_ok, run_loadVar_row w' g t t (u8s X) (0, 0) _ hg hu rfl (by rw [hs]; exact ht)]
theorem made8 (k : Nat) : madeCells #[Value.int .u8 0] k = u8s (List.replicate k 0) := by
  rw [← Array.toList_inj, toList_madeCells_one]
  simp [u8s]

set_option maxRecDepth 20000 in
set_option maxHeartbeats 1000000 in
theorem ends_ok (K : List Int) (left n : Int) (l k : Nat) (w : World) (hT : Tab w) (hKl : K.length = 32) (hKb : Byt K) (hl : 0 ≤ left ∧ left ≤ 255) (hn : 0 ≤ n ∧ n ≤ 65535) (h5 : left % 5 = (l : Int)) (h500 : n % 500 = (k : Int)) (hm : (k : Int) ≤ 64 * ((l : Int) + 1)) :
    Calls Tryd.prog 8 #[.agg (u8s K), .int .u8 left, .int .u16 n] w fun e w' => e = .returned (.bool true) ∧ Below w.heap.size w w' := by
  have hl5 : l < 5 := by omega
  have hk5 : k < 500 := by omega
  have C1 : Box (∀ x, Tab x → Calls Tryd.prog 13 #[.agg (u8s K), .int .u32 (4294967295 - (l : Int)), .agg #[.int .u8 0, .int .u8 0, .int .u8 0, .int .u8 0, .int .u8 0, .int .u8 0, .int .u8 0, .int .u8 0, .int .u8 0, .int .u8 0, .int .u8 0, .int .u8 0], .slice (some ⟨x.heap.size, 0, none⟩) k k] (x.alloc (.cells (madeCells #[.int .u8 0] k) 5)) fun e w' => ∃ a' : Option Addr, e = .returned (.tuple #[.slice a' k k, .int .i64 0]) ∧ Below (x.alloc (.cells (madeCells #[.int .u8 0] k) 5)).heap.size (x.alloc (.cells (madeCells #[.int .u8 0] k) 5)) w') := ⟨fun x hx => by
    have hb : Below x.heap.size x (x.alloc (.cells (madeCells #[.int .u8 0] k) 5)) := (Below.refl _ _).alloc (Nat.le_refl _) _
    have hB : Bytes (x.alloc (.cells (madeCells #[.int .u8 0] k) 5)) (some ⟨x.heap.size, 0, none⟩) k (List.replicate k 0) := by
      have := bytes_of_row (X := List.replicate k 0) (byt_zeros k) (show (x.alloc (.cells (madeCells #[.int .u8 0] k) 5)).heap[x.heap.size]? = some (.cells (u8s (List.replicate k 0)) 5 (0, 0)) from by rw [al_at rfl, made8])
      rwa [List.length_replicate] at this
    refine Calls.mono (crypt_ok _ k k K (List.replicate 12 0) (List.replicate k 0) (4294967295 - (l : Int)) _ hKb hKl (byt_zeros 12) (by simp) ⟨by omega, by omega⟩ (hx.below hb) hB (by omega) (by omega)) ?_
    rintro e w' ⟨a', he, _, hb'⟩
    exact ⟨a', he, hb'⟩⟩
  have HA : Box (∀ x, Tab x → Calls Tryd.prog 9 #[] x fun e w' => e = .returned (.bool true) ∧ Below x.heap.size x w') := ⟨fun x hx => awake_any x hx⟩
  obtain ⟨S, hS⟩ : ∃ S, w.heap.size = S := ⟨_, rfl⟩
  have HS : Hid (w.heap.size = S) := hS
  have H0 : Box ((w.alloc (.cells (u8s K) 23)).heap[S]? = some (.cells (u8s K) 23 (0, 0)) ∧ Below w.heap.size w (w.alloc (.cells (u8s K) 23))) := ⟨al_at hS, (Below.refl _ _).alloc (Nat.le_refl _) _⟩
  have HT : Box (∀ x, Below w.heap.size w x → Tab x) := ⟨fun x hx => hT.below hx⟩
  have hmk := run_make_row' (P := Tryd.prog) 31 5 (.int .u8 0) 1 Tryd.underlying31 Tryd.info5 rfl .i64 .i64 k (by omega) (by omega)
  have s1 : IntKind.u64.wrap (l : Int) = l := by rw [IntKind.wrap_u64]; omega
  have s2 : IntKind.u64.wrap (4294967295 - (l : Int)) = 4294967295 - (l : Int) := by rw [IntKind.wrap_u64]; omega
  have s3 : IntKind.u32.wrap (4294967295 - (l : Int)) = 4294967295 - (l : Int) := by rw [IntKind.wrap_u32]; omega
  clear hS hT hKb
  go_enter Tryd.func8, Tryd.ntmps8
  go_upto_region 1 with fail
  rw [HS.out]
  generalize w.alloc (.cells (u8s K) 23) = x0 at H0 ⊢
  go_upto_region 6 with (go_at_call 9; refine (HA.out x0 (HT.out x0 H0.out.2)).mono ?_; rintro e w1 ⟨rfl, hb1⟩; have HP : Box (∀ x, Below w1.heap.size w1 x → x.heap[S]? = some (.cells (u8s K) 23 (0, 0)) ∧ Tab x ∧ Below w.heap.size w x) := ⟨fun x hx => ⟨row_on (row_on H0.out.1 hb1) hx, HT.out x (below_to (below_to H0.out.2 hb1) hx), below_to (below_to H0.out.2 hb1) hx⟩⟩; clear hb1)
  refine Seq.begin_any (by kernel_rfl) (fun wd hd => ?_)
  refine Seq.take_lat (i := 0) (v := .agg (u8s K)) rfl (by kernel_rfl) (by kernel_rfl) (by kernel_rfl) (fun _ _ _ h => h) (by rfl) (fun w' hLat => exec_load8 23 32 Tryd.underlying23 size32 (.tmp 3) rfl S rfl K hKl (row_on (HP.out wd hd).1 hLat)) ?_
  try simp only [Act.put, List.setIfInBounds_toArray, List.set_cons_zero, List.set_cons_succ, List.getElem_toArray, List.getElem_cons_zero]
  refine Seq.take_lat (i := 1) (v := ?_) rfl (by kernel_rfl) (by kernel_rfl) (by kernel_rfl) (fun _ _ _ h => h) (by rfl) ?_ ?_
  rotate_left
  · intro w' hLat; change Below _ _ _ at hLat; go_simp <;> with_reducible rfl
  try simp only [Act.put, List.setIfInBounds_toArray, List.set_cons_zero, List.set_cons_succ, List.getElem_toArray, List.getElem_cons_zero, List.getElem_cons_succ]
  refine Seq.take_lat (i := 2) (v := ?_) rfl (by kernel_rfl) (by kernel_rfl) (by kernel_rfl) (fun _ _ _ h => h) (by rfl) ?_ ?_
  rotate_left
  · intro w' hLat; change Below _ _ _ at hLat; go_simp <;> with_reducible rfl
  try simp only [Act.put, List.setIfInBounds_toArray, List.set_cons_zero, List.set_cons_succ, List.getElem_toArray, List.getElem_cons_zero, List.getElem_cons_succ]
  refine Seq.take_lat (i := 3) (v := ?_) rfl (by kernel_rfl) (by kernel_rfl) (by kernel_rfl) (fun _ _ _ h => h) (by rfl) ?_ ?_
  rotate_left
  · intro w' hLat; change Below _ _ _ at hLat; go_simp <;> with_reducible rfl
  try simp only [Act.put, List.setIfInBounds_toArray, List.set_cons_zero, List.set_cons_succ, List.getElem_toArray, List.getElem_cons_zero, List.getElem_cons_succ]
  refine Seq.only_lat (i := 4) rfl (by kernel_rfl) (fun K hK => ?_)
  rw [if_pos (by rfl)]
  go_simp
  refine hK.out _ _ ((Below.refl _ _).alloc (Nat.le_refl _) _) ?_
  clear hK K
  try simp only [Act.put, List.setIfInBounds_toArray, List.set_cons_zero, List.set_cons_succ, List.getElem_toArray, List.getElem_cons_zero, List.getElem_cons_succ]
  refine Seq.only_lat (i := 5) rfl (by kernel_rfl) (fun K hK => ?_)
  rw [if_pos (by rfl)]
  go_simp
  refine Calls.mono (C1.out wd (HP.out wd hd).2.1) ?_
  rintro e w2 ⟨a2, rfl, hb2⟩
  have H2 : Box (Below w.heap.size w w2) := ⟨below_to (below_to (HP.out wd hd).2.2 ((Below.refl _ _).alloc (Nat.le_refl _) (.cells (madeCells #[.int .u8 0] k) 5))) hb2⟩
  refine hK.out _ _ hb2 ?_
  clear hb2
  clear hK K
  try simp only [Act.put, List.setIfInBounds_toArray, List.set_cons_zero, List.set_cons_succ, List.getElem_toArray, List.getElem_cons_zero, List.getElem_cons_succ]
  refine Seq.take_lat (i := 6) (v := ?_) rfl (by kernel_rfl) (by kernel_rfl) (by kernel_rfl) (fun _ _ _ h => h) (by rfl) ?_ ?_
  rotate_left
  · intro w' hLat; change Below _ _ _ at hLat; go_simp <;> with_reducible rfl
  try simp only [Act.put, List.setIfInBounds_toArray, List.set_cons_zero, List.set_cons_succ, List.getElem_toArray, List.getElem_cons_zero, List.getElem_cons_succ]
  refine Seq.take_lat (i := 7) (v := ?_) rfl (by kernel_rfl) (by kernel_rfl) (by kernel_rfl) (fun _ _ _ h => h) (by rfl) ?_ ?_
  rotate_left
  · intro w' hLat; change Below _ _ _ at hLat; go_simp <;> with_reducible rfl
  try simp only [Act.put, List.setIfInBounds_toArray, List.set_cons_zero, List.set_cons_succ, List.getElem_toArray, List.getElem_cons_zero, List.getElem_cons_succ]
  refine Seq.take_lat (i := 8) (v := ?_) rfl (by kernel_rfl) (by kernel_rfl) (by kernel_rfl) (fun _ _ _ h => h) (by rfl) ?_ ?_
  rotate_left
  · intro w' hLat; change Below _ _ _ at hLat; go_simp <;> with_reducible rfl
  try simp only [Act.put, List.setIfInBounds_toArray, List.set_cons_zero, List.set_cons_succ, List.getElem_toArray, List.getElem_cons_zero, List.getElem_cons_succ]
  refine Seq.take_lat (i := 9) (v := ?_) rfl (by kernel_rfl) (by kernel_rfl) (by kernel_rfl) (fun _ _ _ h => h) (by rfl) ?_ ?_
  rotate_left
  · intro w' hLat; change Below _ _ _ at hLat; go_simp <;> with_reducible rfl
  try simp only [Act.put, List.setIfInBounds_toArray, List.set_cons_zero, List.set_cons_succ, List.getElem_toArray, List.getElem_cons_zero, List.getElem_cons_succ]
  refine Seq.take_lat (i := 10) (v := ?_) rfl (by kernel_rfl) (by kernel_rfl) (by kernel_rfl) (fun _ _ _ h => h) (by rfl) ?_ ?_
  rotate_left
  · intro w' hLat; change Below _ _ _ at hLat; go_simp <;> with_reducible rfl
  try simp only [Act.put, List.setIfInBounds_toArray, List.set_cons_zero, List.set_cons_succ, List.getElem_toArray, List.getElem_cons_zero, List.getElem_cons_succ]
  refine wpAnyH_done (by kernel_rfl) ?_ _
  clear hmk C1 HA HT HP
  go_wp2
  go_ret
  exact ⟨rfl, H2.out⟩

set_option maxRecDepth 20000 in
set_option maxHeartbeats 1000000 in
theorem ends_no (K : List Int) (left n : Int) (l k : Nat) (w : World) (hT : Tab w) (hKl : K.length = 32) (hKb : Byt K) (hl : 0 ≤ left ∧ left ≤ 255) (hn : 0 ≤ n ∧ n ≤ 65535) (h5 : left % 5 = (l : Int)) (h500 : n % 500 = (k : Int)) (hm : 64 * ((l : Int) + 1) < (k : Int)) :
    Calls Tryd.prog 8 #[.agg (u8s K), .int .u8 left, .int .u16 n] w fun e w' => e = .returned (.bool true) ∧ Below w.heap.size w w' := by
  have hl5 : l < 5 := by omega
  have hk5 : k < 500 := by omega
  have C1 : Box (∀ x, Tab x → Calls Tryd.prog 13 #[.agg (u8s K), .int .u32 (4294967295 - (l : Int)), .agg #[.int .u8 0, .int .u8 0, .int .u8 0, .int .u8 0, .int .u8 0, .int .u8 0, .int .u8 0, .int .u8 0, .int .u8 0, .int .u8 0, .int .u8 0, .int .u8 0], .slice (some ⟨x.heap.size, 0, none⟩) k k] (x.alloc (.cells (madeCells #[.int .u8 0] k) 5)) fun e w' => ∃ a' : Option Addr, e = .returned (.tuple #[.slice none 0 0, .int .i64 1]) ∧ Below (x.alloc (.cells (madeCells #[.int .u8 0] k) 5)).heap.size (x.alloc (.cells (madeCells #[.int .u8 0] k) 5)) w') := ⟨fun x hx => by
    refine Calls.mono (crypt_no _ k k K (List.replicate 12 0) (4294967295 - (l : Int)) _ ⟨by omega, by omega⟩ (by omega) (by omega)) ?_
    rintro e w' ⟨he, hb'⟩
    exact ⟨none, he, hb'⟩⟩
  have HA : Box (∀ x, Tab x → Calls Tryd.prog 9 #[] x fun e w' => e = .returned (.bool true) ∧ Below x.heap.size x w') := ⟨fun x hx => awake_any x hx⟩
  obtain ⟨S, hS⟩ : ∃ S, w.heap.size = S := ⟨_, rfl⟩
  have HS : Hid (w.heap.size = S) := hS
  have H0 : Box ((w.alloc (.cells (u8s K) 23)).heap[S]? = some (.cells (u8s K) 23 (0, 0)) ∧ Below w.heap.size w (w.alloc (.cells (u8s K) 23))) := ⟨al_at hS, (Below.refl _ _).alloc (Nat.le_refl _) _⟩
  have HT : Box (∀ x, Below w.heap.size w x → Tab x) := ⟨fun x hx => hT.below hx⟩
  have hmk := run_make_row' (P := Tryd.prog) 31 5 (.int .u8 0) 1 Tryd.underlying31 Tryd.info5 rfl .i64 .i64 k (by omega) (by omega)
  have s1 : IntKind.u64.wrap (l : Int) = l := by rw [IntKind.wrap_u64]; omega
  have s2 : IntKind.u64.wrap (4294967295 - (l : Int)) = 4294967295 - (l : Int) := by rw [IntKind.wrap_u64]; omega
  have s3 : IntKind.u32.wrap (4294967295 - (l : Int)) = 4294967295 - (l : Int) := by rw [IntKind.wrap_u32]; omega
  clear hS hT hKb
  go_enter Tryd.func8, Tryd.ntmps8
  go_upto_region 1 with fail
  rw [HS.out]
  generalize w.alloc (.cells (u8s K) 23) = x0 at H0 ⊢
  go_upto_region 6 with (go_at_call 9; refine (HA.out x0 (HT.out x0 H0.out.2)).mono ?_; rintro e w1 ⟨rfl, hb1⟩; have HP : Box (∀ x, Below w1.heap.size w1 x → x.heap[S]? = some (.cells (u8s K) 23 (0, 0)) ∧ Tab x ∧ Below w.heap.size w x) := ⟨fun x hx => ⟨row_on (row_on H0.out.1 hb1) hx, HT.out x (below_to (below_to H0.out.2 hb1) hx), below_to (below_to H0.out.2 hb1) hx⟩⟩; clear hb1)
  refine Seq.begin_any (by kernel_rfl) (fun wd hd => ?_)
  refine Seq.take_lat (i := 0) (v := .agg (u8s K)) rfl (by kernel_rfl) (by kernel_rfl) (by kernel_rfl) (fun _ _ _ h => h) (by rfl) (fun w' hLat => exec_load8 23 32 Tryd.underlying23 size32 (.tmp 3) rfl S rfl K hKl (row_on (HP.out wd hd).1 hLat)) ?_
  try simp only [Act.put, List.setIfInBounds_toArray, List.set_cons_zero, List.set_cons_succ, List.getElem_toArray, List.getElem_cons_zero]
  refine Seq.take_lat (i := 1) (v := ?_) rfl (by kernel_rfl) (by kernel_rfl) (by kernel_rfl) (fun _ _ _ h => h) (by rfl) ?_ ?_
  rotate_left
  · intro w' hLat; change Below _ _ _ at hLat; go_simp <;> with_reducible rfl
  try simp only [Act.put, List.setIfInBounds_toArray, List.set_cons_zero, List.set_cons_succ, List.getElem_toArray, List.getElem_cons_zero, List.getElem_cons_succ]
  refine Seq.take_lat (i := 2) (v := ?_) rfl (by kernel_rfl) (by kernel_rfl) (by kernel_rfl) (fun _ _ _ h => h) (by rfl) ?_ ?_
  rotate_left
  · intro w' hLat; change Below _ _ _ at hLat; go_simp <;> with_reducible rfl
  try simp only [Act.put, List.setIfInBounds_toArray, List.set_cons_zero, List.set_cons_succ, List.getElem_toArray, List.getElem_cons_zero, List.getElem_cons_succ]
  refine Seq.take_lat (i := 3) (v := ?_) rfl (by kernel_rfl) (by kernel_rfl) (by kernel_rfl) (fun _ _ _ h => h) (by rfl) ?_ ?_
  rotate_left
  · intro w' hLat; change Below _ _ _ at hLat; go_simp <;> with_reducible rfl
  try simp only [Act.put, List.setIfInBounds_toArray, List.set_cons_zero, List.set_cons_succ, List.getElem_toArray, List.getElem_cons_zero, List.getElem_cons_succ]
  refine Seq.only_lat (i := 4) rfl (by kernel_rfl) (fun K hK => ?_)
  rw [if_pos (by rfl)]
  go_simp
  refine hK.out _ _ ((Below.refl _ _).alloc (Nat.le_refl _) _) ?_
  clear hK K
  try simp only [Act.put, List.setIfInBounds_toArray, List.set_cons_zero, List.set_cons_succ, List.getElem_toArray, List.getElem_cons_zero, List.getElem_cons_succ]
  refine Seq.only_lat (i := 5) rfl (by kernel_rfl) (fun K hK => ?_)
  rw [if_pos (by rfl)]
  go_simp
  refine Calls.mono (C1.out wd (HP.out wd hd).2.1) ?_
  rintro e w2 ⟨a2, rfl, hb2⟩
  have H2 : Box (Below w.heap.size w w2) := ⟨below_to (below_to (HP.out wd hd).2.2 ((Below.refl _ _).alloc (Nat.le_refl _) (.cells (madeCells #[.int .u8 0] k) 5))) hb2⟩
  refine hK.out _ _ hb2 ?_
  clear hb2
  clear hK K
  try simp only [Act.put, List.setIfInBounds_toArray, List.set_cons_zero, List.set_cons_succ, List.getElem_toArray, List.getElem_cons_zero, List.getElem_cons_succ]
  refine Seq.take_lat (i := 6) (v := ?_) rfl (by kernel_rfl) (by kernel_rfl) (by kernel_rfl) (fun _ _ _ h => h) (by rfl) ?_ ?_
  rotate_left
  · intro w' hLat; change Below _ _ _ at hLat; go_simp <;> with_reducible rfl
  try simp only [Act.put, List.setIfInBounds_toArray, List.set_cons_zero, List.set_cons_succ, List.getElem_toArray, List.getElem_cons_zero, List.getElem_cons_succ]
  refine Seq.take_lat (i := 7) (v := ?_) rfl (by kernel_rfl) (by kernel_rfl) (by kernel_rfl) (fun _ _ _ h => h) (by rfl) ?_ ?_
  rotate_left
  · intro w' hLat; change Below _ _ _ at hLat; go_simp <;> with_reducible rfl
  try simp only [Act.put, List.setIfInBounds_toArray, List.set_cons_zero, List.set_cons_succ, List.getElem_toArray, List.getElem_cons_zero, List.getElem_cons_succ]
  refine Seq.take_lat (i := 8) (v := ?_) rfl (by kernel_rfl) (by kernel_rfl) (by kernel_rfl) (fun _ _ _ h => h) (by rfl) ?_ ?_
  rotate_left
  · intro w' hLat; change Below _ _ _ at hLat; go_simp <;> with_reducible rfl
  try simp only [Act.put, List.setIfInBounds_toArray, List.set_cons_zero, List.set_cons_succ, List.getElem_toArray, List.getElem_cons_zero, List.getElem_cons_succ]
  refine Seq.take_lat (i := 9) (v := ?_) rfl (by kernel_rfl) (by kernel_rfl) (by kernel_rfl) (fun _ _ _ h => h) (by rfl) ?_ ?_
  rotate_left
  · intro w' hLat; change Below _ _ _ at hLat; go_simp <;> with_reducible rfl
  try simp only [Act.put, List.setIfInBounds_toArray, List.set_cons_zero, List.set_cons_succ, List.getElem_toArray, List.getElem_cons_zero, List.getElem_cons_succ]
  refine Seq.take_lat (i := 10) (v := ?_) rfl (by kernel_rfl) (by kernel_rfl) (by kernel_rfl) (fun _ _ _ h => h) (by rfl) ?_ ?_
  rotate_left
  · intro w' hLat; change Below _ _ _ at hLat; go_simp <;> with_reducible rfl
  try simp only [Act.put, List.setIfInBounds_toArray, List.set_cons_zero, List.set_cons_succ, List.getElem_toArray, List.getElem_cons_zero, List.getElem_cons_succ]
  refine wpAnyH_done (by kernel_rfl) ?_ _
  clear hmk C1 HA HT HP
  go_wp2
  go_ret
  exact ⟨rfl, H2.out⟩

theorem cipherEnds_walk (K : List Int) (left n : Int) (W : World) (hT : Tab W) (hKl : K.length = 32) (hKb : Byt K) (w1 : (Lit.int .u8 left).wf = true) (w2 : (Lit.int .u16 n).wf = true) :
    Calls Tryd.prog 8 #[.agg (u8s K), .int .u8 left, .int .u16 n] W fun e w' => e = .returned (.bool true) ∧ Below W.heap.size W w' := by
  have b1 := bounds_u8 w1
  have b2 := bounds_u16 w2
  obtain ⟨l, h5⟩ : ∃ l : Nat, left % 5 = (l : Int) := ⟨(left % 5).toNat, by omega⟩
  obtain ⟨k, h500⟩ : ∃ k : Nat, n % 500 = (k : Int) := ⟨(n % 500).toNat, by omega⟩
  by_cases hm : (k : Int) ≤ 64 * ((l : Int) + 1)
  · exact ends_ok K left n l k W hT hKl hKb b1 b2 h5 h500 hm
  · exact ends_no K left n l k W hT hKl hKb b1 b2 h5 h500 (by omega)
end Go.Proofs.YtcdngpknoapmdaaDoor
