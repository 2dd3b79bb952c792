/-
  The walk of CipherTwice: laid over twice bytes are what they were, in new memory; whole blocks, and the others from a later counter on, are the same: the law returns true, in every memory that holds the package's table.
-/
import Derived.Test.YtcdngpknoapmdaaDoorEN
namespace Go.Proofs.YtcdngpknoapmdaaDoor
set_option linter.unusedVariables false
open Go.RowKit Plain

theorem str_app (A B : List Int) : strOfNums A ++ strOfNums B = strOfNums (A ++ B) := by
  apply ByteArray.ext
  simp [strOfNums]
theorem str_size (L : List Int) : (strOfNums L).size = L.length := by
  show (strOfNums L).data.size = L.length
  simp [strOfNums]
theorem cr_split (K : List Int) (c : Int) (N B : List Int) (m p len : Nat) (hp : 64 * m = p) (hB : B.length = len) (hpl : p ≤ len) : cr K c N (B.take p) p ++ cr K (c + m) N (B.drop p) (len - p) = cr K c N B len := by
  apply eq_getD _ _ len (by rw [List.length_append, length_cr, length_cr]; omega) (length_cr _ _ _ _ _)
  intro i hi
  rw [getD_app, length_cr, cr_at _ _ _ B _ _ hi]
  by_cases h : i < p
  · rw [if_pos h, cr_at _ _ _ _ _ _ h]
    simp [List.getD, h]
  · rw [if_neg h, cr_at _ _ _ _ _ _ (by omega)]
    have e1 : (B.drop p).getD (i - p) 0 = B.getD i 0 := by simp only [List.getD, List.getElem?_drop]; rw [show p + (i - p) = i by omega]
    have e2 : stm K (c + m) N (i - p) = stm K c N i := by
      unfold stm
      rw [show (i - p) % 64 = i % 64 by omega]
      congr 2
      have : ((i - p) / 64 : Nat) + m = i / 64 := by omega
      omega
    rw [e1, e2]
theorem exec_slice {o : Oper} {a : Act} {w' : World} (t : TypeId) (x : Operand) (lo hi : Option Operand) (ho : o.op = .slice t x lo hi none) (r : Value) (h : (Instr.sliceAt t (a.eval x) (lo.map a.eval) (hi.map a.eval) none).run Tryd.prog w' = .ok r w') :
    (execOp a.eval o).run Tryd.prog w' = .ok (.value r) w' := by
  unfold execOp
  simp only [ho, Option.map_none, Sem.run_bind, Sem.run_pure, h, Result.andThen_ok]
theorem slice_hi (a : Option Addr) (len cap n : Nat) (hn : n ≤ len) (hc : len ≤ cap) : ∃ a', (∀ x, (Instr.sliceAt 31 (.slice a len cap) none (some (.int .i64 (n : Int))) none).run Tryd.prog x = .ok (.slice a' n cap) x) ∧ ∀ x B, Bytes x a len B → Bytes x a' n (B.take n) := by
  refine ⟨if cap = 0 then a else a.map (·.add (0 * 1)), fun x => ?_, fun x B hB => ?_⟩
  · have hu : Tryd.prog.underlying 31 = some (.slice (Tryd.prog.elem 31)) := by kernel_rfl
    rw [run_sliceAt_slice (P := Tryd.prog) x 31 _ _ _ _ hu, run_slice_h (P := Tryd.prog) x 31 a len cap hu .i64 (n : Int) (by omega) (by omega)]
    have hs : (sizeOf (Tryd.prog.elem 31)).run Tryd.prog x = .ok 1 x := by kernel_rfl
    rw [hs, Result.andThen_ok, sliced]
    simp
  · refine ⟨by rw [List.length_take, hB.1]; omega, byt_take B n hB.2.1, fun hp => ?_⟩
    obtain ⟨b, off, rfl, hlt, hcl⟩ := hB.2.2 (by omega)
    rw [if_neg (by omega)]
    refine ⟨b, off, by simp [Addr.add_mid], hlt, fun i hi => ?_⟩
    rw [hcl i (by omega)]
    simp [List.getD, hi]
theorem slice_lo (a : Option Addr) (len cap n : Nat) (hn : n ≤ len) (hc : len ≤ cap) : ∃ a', (∀ x, (Instr.sliceAt 31 (.slice a len cap) (some (.int .i64 (n : Int))) none none).run Tryd.prog x = .ok (.slice a' (len - n) (cap - n)) x) ∧ ∀ x B, Bytes x a len B → Bytes x a' (len - n) (B.drop n) := by
  refine ⟨if cap = n then a else a.map (·.add (n * 1)), fun x => ?_, fun x B hB => ?_⟩
  · have hu : Tryd.prog.underlying 31 = some (.slice (Tryd.prog.elem 31)) := by kernel_rfl
    rw [run_sliceAt_slice (P := Tryd.prog) x 31 _ _ _ _ hu, run_slice_l (P := Tryd.prog) x 31 a len cap hu .i64 (n : Int) (by omega) (by omega)]
    have hs : (sizeOf (Tryd.prog.elem 31)).run Tryd.prog x = .ok 1 x := by kernel_rfl
    rw [hs, Result.andThen_ok, sliced]
    simp
  · refine ⟨by rw [List.length_drop, hB.1], byt_drop B n hB.2.1, fun hp => ?_⟩
    obtain ⟨b, off, rfl, hlt, hcl⟩ := hB.2.2 (by omega)
    rw [if_neg (by omega)]
    refine ⟨b, off + n, by simp [Addr.add_mid], hlt, fun i hi => ?_⟩
    rw [Nat.add_assoc, hcl (n + i) (by omega)]
    simp [List.getD, List.getElem?_drop]

/-- A key in block S, a nonce in the next one, all else as it was. -/
def Tw (w x : World) (S : Nat) (K N : List Int) : Prop := x.heap[S]? = some (.cells (u8s K) 23 (0, 0)) ∧ x.heap[S + 1]? = some (.cells (u8s N) 25 (0, 0)) ∧ Below w.heap.size w x
theorem Tw.on {w x y : World} {S : Nat} {K N : List Int} (h : Tw w x S K N) (hb : Below x.heap.size x y) : Tw w y S K N := ⟨row_on h.1 hb, row_on h.2.1 hb, below_to h.2.2 hb⟩

set_option maxRecDepth 20000 in
set_option maxHeartbeats 2000000 in
theorem twice_in (K N B : List Int) (a : Option Addr) (len cap : Nat) (k : Int) (m p : Nat) (w : World) (hT : Tab w) (hKl : K.length = 32) (hKb : Byt K) (hNl : N.length = 12) (hNb : Byt N) (hB : Bytes w a len B) (hcap : len ≤ cap) (hl : len ≤ 1000) (hk : 0 ≤ k ∧ k ≤ 255) (h16 : k % 16 = (m : Int)) (hp : 64 * (m : Int) = (p : Int)) (hpl : p ≤ len) :
    Calls Tryd.prog 5 #[.agg (u8s K), .agg (u8s N), .slice a len cap, .int .u8 k] w fun e w' => e = .returned (.bool true) ∧ Below w.heap.size w w' := by
  have d1 : ¬ 1000 < (len : Int) := by omega
  have d2 : ¬ (len : Int) < (p : Int) := by omega
  have hm : m < 16 := by omega
  obtain ⟨C, EC⟩ := named (cr K 5 N B len)
  obtain ⟨X4, E4⟩ := named (cr K 5 N (B.take p) p)
  obtain ⟨X5, E5⟩ := named (cr K (5 + (m : Int)) N (B.drop p) (len - p))
  have hcat : strOfNums X4 ++ strOfNums X5 = strOfNums C := by rw [str_app, ← E4.out, ← E5.out, ← EC.out, cr_split K 5 N B m p len (by omega) hB.1 hpl]
  have hsum : ¬ 9223372036854775807 < (strOfNums X4).size + (strOfNums X5).size := by
    have h4 : X4.length = p := by rw [← E4.out]; exact length_cr _ _ _ _ _
    have h5 : X5.length = len - p := by rw [← E5.out]; exact length_cr _ _ _ _ _
    rw [str_size, str_size]; omega
  obtain ⟨ah, hsh, hBh⟩ := slice_hi a len cap p hpl hcap
  obtain ⟨al, hsl, hBl⟩ := slice_lo a len cap p hpl hcap
  obtain ⟨cl, hcl⟩ : ∃ c, cap - p = c := ⟨_, rfl⟩
  rw [hcl] at hsl
  have HT : Box (∀ x, Below w.heap.size w x → Tab x ∧ Bytes x a len B) := ⟨fun x hx => ⟨hT.below hx, hB.below hx⟩⟩
  have C1 : Box (∀ x, Below w.heap.size w x → Calls Tryd.prog 13 #[.agg (u8s K), .int .u32 5, .agg (u8s N), .slice a len cap] x fun e w' => ∃ a', e = .returned (.tuple #[.slice a' len len, .int .i64 0]) ∧ Bytes w' a' len C ∧ Below x.heap.size x w') := ⟨fun x hx => by rw [← EC.out]; exact crypt_ok a len cap K N B 5 x hKb hKl hNb hNl ⟨by omega, by omega⟩ (HT.out x hx).1 (HT.out x hx).2 (by omega) (by omega)⟩
  have C2 : Box (∀ x a2, Below w.heap.size w x → Bytes x a2 len C → Calls Tryd.prog 13 #[.agg (u8s K), .int .u32 5, .agg (u8s N), .slice a2 len len] x fun e w' => ∃ a', e = .returned (.tuple #[.slice a' len len, .int .i64 0]) ∧ Bytes w' a' len B ∧ Below x.heap.size x w') := ⟨fun x a2 hx h2 => by
    have := crypt_ok a2 len len K N C 5 x hKb hKl hNb hNl ⟨by omega, by omega⟩ (HT.out x hx).1 h2 (by omega) (by omega)
    rw [show cr K 5 N C len = B by rw [← EC.out]; exact cr_twice K 5 N B len hB.2.1 hB.1] at this
    exact this⟩
  have C3 : Box (∀ x, Below w.heap.size w x → Calls Tryd.prog 13 #[.agg (u8s K), .int .u32 5, .agg (u8s N), .slice ah p cap] x fun e w' => ∃ a', e = .returned (.tuple #[.slice a' p p, .int .i64 0]) ∧ Bytes w' a' p X4 ∧ Below x.heap.size x w') := ⟨fun x hx => by rw [← E4.out]; exact crypt_ok ah p cap K N (B.take p) 5 x hKb hKl hNb hNl ⟨by omega, by omega⟩ (HT.out x hx).1 (hBh x B (HT.out x hx).2) (by omega) (by omega)⟩
  have C4 : Box (∀ x, Below w.heap.size w x → Calls Tryd.prog 13 #[.agg (u8s K), .int .u32 (5 + (m : Int)), .agg (u8s N), .slice al (len - p) cl] x fun e w' => ∃ a', e = .returned (.tuple #[.slice a' (len - p) (len - p), .int .i64 0]) ∧ Bytes w' a' (len - p) X5 ∧ Below x.heap.size x w') := ⟨fun x hx => by rw [← E5.out]; exact crypt_ok al (len - p) cl K N (B.drop p) (5 + (m : Int)) x hKb hKl hNb hNl ⟨by omega, by omega⟩ (HT.out x hx).1 (hBl x B (HT.out x hx).2) (by omega) (by omega)⟩
  have HA : Box (∀ x, Tab x → Calls Tryd.prog 9 #[] x fun e w' => e = .returned (.bool true) ∧ Below x.heap.size x w') := ⟨fun x hx => awake_any x hx⟩
  obtain ⟨S, hS⟩ : ∃ S, w.heap.size = S := ⟨_, rfl⟩
  have HS : Hid (w.heap.size = S) := hS
  have H0 : Box (Tw w ((w.alloc (.cells (u8s K) 23)).alloc (.cells (u8s N) 25)) S K N) := ⟨al_old (al_at hS), al_at (by simp [hS]), ((Below.refl _ _).alloc (Nat.le_refl _) _).alloc (by simp) _⟩
  have s1 : IntKind.i64.wrap (64 * (m : Int)) = (p : Int) := by rw [IntKind.wrap_i64]; omega
  have s0 : IntKind.i64.wrap (p : Int) = (p : Int) := by rw [IntKind.wrap_i64]; omega
  have s2 : IntKind.u32.wrap (m : Int) = (m : Int) := by rw [IntKind.wrap_u32]; omega
  have s3 : IntKind.u32.wrap (5 + (m : Int)) = 5 + (m : Int) := by rw [IntKind.wrap_u32]; omega
  clear hS hT hB hKb hNb EC E4 E5 hBh hBl hcl
  go_enter Tryd.func5, Tryd.ntmps5
  go_upto_region 1 with fail
  rw [HS.out]
  generalize (w.alloc (.cells (u8s K) 23)).alloc (.cells (u8s N) 25) = x0 at H0 ⊢
  go_upto_region 14 with (first
    | (go_at_call 13; refine Calls.mono (C2.out w2 a2 H2.out.1.2.2 H2.out.2) ?_; rintro e w3 ⟨a3, rfl, hB3, hb3⟩; have q3 := conv_bytes hB3 len; have q4 := conv_bytes (HT.out w3 (below_to H2.out.1.2.2 hb3)).2 cap; have H3 : Box (Tw w w3 S K N) := ⟨H2.out.1.on hb3⟩; have HC2 : Box (Bytes w3 a2 len C) := ⟨H2.out.2.below hb3⟩; clear hB3 hb3)
    | (refine wpList_seeNon (S + 1) N hNl H2.out.1.2.1 rfl (.tmp 5) rfl rfl ?_)
    | (refine wpList_seeKey S K hKl H2.out.1.1 rfl (.tmp 4) rfl rfl ?_)
    | (go_at_call 13; refine Calls.mono (C1.out w1 H1.out.2.2) ?_; rintro e w2 ⟨a2, rfl, hB2, hb2⟩; have H2 : Box (Tw w w2 S K N ∧ Bytes w2 a2 len C) := ⟨H1.out.on hb2, hB2⟩; clear hB2 hb2)
    | (refine wpList_seeNon (S + 1) N hNl H1.out.2.1 rfl (.tmp 5) rfl rfl ?_)
    | (refine wpList_seeKey S K hKl H1.out.1 rfl (.tmp 4) rfl rfl ?_)
    | (go_at_call 9; refine (HA.out x0 (HT.out x0 H0.out.2.2).1).mono ?_; rintro e w1 ⟨rfl, hb1⟩; have H1 : Box (Tw w w1 S K N) := ⟨H0.out.on hb1⟩; have q1 := conv_bytes (HT.out w1 H1.out.2.2).2 cap; clear hb1))
  refine Seq.begin_any (by kernel_rfl) (fun wd hd => ?_)
  refine Seq.take_lat (i := 0) (v := .agg (u8s K)) rfl (by kernel_rfl) (by kernel_rfl) (by kernel_rfl) (fun _ _ _ h => h) (by rfl) (fun w' hLat => exec_load8 23 32 Tryd.underlying23 size32 (.tmp 4) rfl S rfl K hKl (row_on ((H3.out.on hd).1) hLat)) ?_
  try simp only [Act.put, List.setIfInBounds_toArray, List.set_cons_zero, List.set_cons_succ, List.getElem_toArray, List.getElem_cons_zero]
  refine Seq.take_lat (i := 1) (v := .agg (u8s N)) rfl (by kernel_rfl) (by kernel_rfl) (by kernel_rfl) (fun _ _ _ h => h) (by rfl) (fun w' hLat => exec_load8 25 12 Tryd.underlying25 size12 (.tmp 5) rfl (S + 1) rfl N hNl (row_on ((H3.out.on hd).2.1) hLat)) ?_
  try simp only [Act.put, List.setIfInBounds_toArray, List.set_cons_zero, List.set_cons_succ, List.getElem_toArray, List.getElem_cons_zero, List.getElem_cons_succ]
  refine Seq.take_lat (i := 2) (v := ?_) rfl (by kernel_rfl) (by kernel_rfl) (by kernel_rfl) (fun _ _ _ h => h) (by rfl) ?_ ?_
  rotate_left
  · intro w' hLat; change Below _ _ _ at hLat; go_simp <;> with_reducible rfl
  try simp only [Act.put, List.setIfInBounds_toArray, List.set_cons_zero, List.set_cons_succ, List.getElem_toArray, List.getElem_cons_zero, List.getElem_cons_succ]
  refine Seq.take_lat (i := 3) (v := ?_) rfl (by kernel_rfl) (by kernel_rfl) (by kernel_rfl) (fun _ _ _ h => h) (by rfl) ?_ ?_
  rotate_left
  · intro w' hLat; change Below _ _ _ at hLat; go_simp <;> with_reducible rfl
  try simp only [Act.put, List.setIfInBounds_toArray, List.set_cons_zero, List.set_cons_succ, List.getElem_toArray, List.getElem_cons_zero, List.getElem_cons_succ]
  refine Seq.take_lat (i := 4) (v := ?_) rfl (by kernel_rfl) (by kernel_rfl) (by kernel_rfl) (fun _ _ _ h => h) (by rfl) ?_ ?_
  rotate_left
  · intro w' hLat; change Below _ _ _ at hLat; go_simp <;> with_reducible rfl
  try simp only [Act.put, List.setIfInBounds_toArray, List.set_cons_zero, List.set_cons_succ, List.getElem_toArray, List.getElem_cons_zero, List.getElem_cons_succ]
  refine Seq.take_lat (i := 5) (v := .slice ah p cap) rfl (by kernel_rfl) (by kernel_rfl) (by kernel_rfl) (fun _ _ _ h => h) (by rfl) (fun w' hLat => exec_slice 31 (.tmp 71) none (some (.tmp 73)) rfl _ (hsh w')) ?_
  try simp only [Act.put, List.setIfInBounds_toArray, List.set_cons_zero, List.set_cons_succ, List.getElem_toArray, List.getElem_cons_zero, List.getElem_cons_succ]
  refine Seq.only_lat (i := 6) rfl (by kernel_rfl) (fun KK hK => ?_)
  rw [if_pos (by rfl)]
  go_simp
  refine Calls.mono (C3.out wd (H3.out.on hd).2.2) ?_
  rintro e w4 ⟨a4, rfl, hB4, hb4⟩
  have H4 : Box (Tw w w4 S K N ∧ Bytes w4 a4 p X4 ∧ Bytes w4 a2 len C) := ⟨(H3.out.on hd).on hb4, hB4, (HC2.out.below hd).below hb4⟩
  refine hK.out _ _ hb4 ?_
  clear hB4 hb4
  clear hK KK
  try simp only [Act.put, List.setIfInBounds_toArray, List.set_cons_zero, List.set_cons_succ, List.getElem_toArray, List.getElem_cons_zero, List.getElem_cons_succ]
  refine Seq.take_lat (i := 7) (v := ?_) rfl (by kernel_rfl) (by kernel_rfl) (by kernel_rfl) (fun _ _ _ h => h) (by rfl) ?_ ?_
  rotate_left
  · intro w' hLat; change Below _ _ _ at hLat; go_simp <;> with_reducible rfl
  try simp only [Act.put, List.setIfInBounds_toArray, List.set_cons_zero, List.set_cons_succ, List.getElem_toArray, List.getElem_cons_zero, List.getElem_cons_succ]
  refine Seq.take_lat (i := 8) (v := ?_) rfl (by kernel_rfl) (by kernel_rfl) (by kernel_rfl) (fun _ _ _ h => h) (by rfl) ?_ ?_
  rotate_left
  · intro w' hLat; change Below _ _ _ at hLat; go_simp <;> with_reducible rfl
  try simp only [Act.put, List.setIfInBounds_toArray, List.set_cons_zero, List.set_cons_succ, List.getElem_toArray, List.getElem_cons_zero, List.getElem_cons_succ]
  refine Seq.take_lat (i := 9) (v := ?_) rfl (by kernel_rfl) (by kernel_rfl) (by kernel_rfl) (fun _ _ _ h => h) (by rfl) ?_ ?_
  rotate_left
  · intro w' hLat; change Below _ _ _ at hLat; go_simp <;> with_reducible rfl
  try simp only [Act.put, List.setIfInBounds_toArray, List.set_cons_zero, List.set_cons_succ, List.getElem_toArray, List.getElem_cons_zero, List.getElem_cons_succ]
  refine Seq.take_lat (i := 10) (v := ?_) rfl (by kernel_rfl) (by kernel_rfl) (by kernel_rfl) (fun _ _ _ h => h) (by rfl) ?_ ?_
  rotate_left
  · intro w' hLat; change Below _ _ _ at hLat; go_simp <;> with_reducible rfl
  try simp only [Act.put, List.setIfInBounds_toArray, List.set_cons_zero, List.set_cons_succ, List.getElem_toArray, List.getElem_cons_zero, List.getElem_cons_succ]
  refine Seq.take_lat (i := 11) (v := ?_) rfl (by kernel_rfl) (by kernel_rfl) (by kernel_rfl) (fun _ _ _ h => h) (by rfl) ?_ ?_
  rotate_left
  · intro w' hLat; change Below _ _ _ at hLat; go_simp <;> with_reducible rfl
  try simp only [Act.put, List.setIfInBounds_toArray, List.set_cons_zero, List.set_cons_succ, List.getElem_toArray, List.getElem_cons_zero, List.getElem_cons_succ]
  refine wpAnyH_done (by kernel_rfl) ?_ _
  have H4' : Box (Tw w w4 S K N) := ⟨H4.out.1⟩
  have HB4 : Box (Bytes w4 a4 p X4 ∧ Bytes w4 a2 len C) := ⟨H4.out.2⟩
  clear H4 q1 q3 q4
  go_upto_region 15 with fail
  refine Seq.begin_any (by kernel_rfl) (fun wd hd => ?_)
  refine Seq.take_lat (i := 0) (v := .agg (u8s K)) rfl (by kernel_rfl) (by kernel_rfl) (by kernel_rfl) (fun _ _ _ h => h) (by rfl) (fun w' hLat => exec_load8 23 32 Tryd.underlying23 size32 (.tmp 4) rfl S rfl K hKl (row_on ((H4'.out.on hd).1) hLat)) ?_
  try simp only [Act.put, List.setIfInBounds_toArray, List.set_cons_zero, List.set_cons_succ, List.getElem_toArray, List.getElem_cons_zero]
  refine Seq.take_lat (i := 1) (v := ?_) rfl (by kernel_rfl) (by kernel_rfl) (by kernel_rfl) (fun _ _ _ h => h) (by rfl) ?_ ?_
  rotate_left
  · intro w' hLat; change Below _ _ _ at hLat; go_simp <;> with_reducible rfl
  try simp only [Act.put, List.setIfInBounds_toArray, List.set_cons_zero, List.set_cons_succ, List.getElem_toArray, List.getElem_cons_zero, List.getElem_cons_succ]
  refine Seq.take_lat (i := 2) (v := ?_) rfl (by kernel_rfl) (by kernel_rfl) (by kernel_rfl) (fun _ _ _ h => h) (by rfl) ?_ ?_
  rotate_left
  · intro w' hLat; change Below _ _ _ at hLat; go_simp <;> with_reducible rfl
  try simp only [Act.put, List.setIfInBounds_toArray, List.set_cons_zero, List.set_cons_succ, List.getElem_toArray, List.getElem_cons_zero, List.getElem_cons_succ]
  refine Seq.take_lat (i := 3) (v := ?_) rfl (by kernel_rfl) (by kernel_rfl) (by kernel_rfl) (fun _ _ _ h => h) (by rfl) ?_ ?_
  rotate_left
  · intro w' hLat; change Below _ _ _ at hLat; go_simp <;> with_reducible rfl
  try simp only [Act.put, List.setIfInBounds_toArray, List.set_cons_zero, List.set_cons_succ, List.getElem_toArray, List.getElem_cons_zero, List.getElem_cons_succ]
  refine Seq.take_lat (i := 4) (v := .agg (u8s N)) rfl (by kernel_rfl) (by kernel_rfl) (by kernel_rfl) (fun _ _ _ h => h) (by rfl) (fun w' hLat => exec_load8 25 12 Tryd.underlying25 size12 (.tmp 5) rfl (S + 1) rfl N hNl (row_on ((H4'.out.on hd).2.1) hLat)) ?_
  try simp only [Act.put, List.setIfInBounds_toArray, List.set_cons_zero, List.set_cons_succ, List.getElem_toArray, List.getElem_cons_zero, List.getElem_cons_succ]
  refine Seq.take_lat (i := 5) (v := ?_) rfl (by kernel_rfl) (by kernel_rfl) (by kernel_rfl) (fun _ _ _ h => h) (by rfl) ?_ ?_
  rotate_left
  · intro w' hLat; change Below _ _ _ at hLat; go_simp <;> with_reducible rfl
  try simp only [Act.put, List.setIfInBounds_toArray, List.set_cons_zero, List.set_cons_succ, List.getElem_toArray, List.getElem_cons_zero, List.getElem_cons_succ]
  refine Seq.take_lat (i := 6) (v := ?_) rfl (by kernel_rfl) (by kernel_rfl) (by kernel_rfl) (fun _ _ _ h => h) (by rfl) ?_ ?_
  rotate_left
  · intro w' hLat; change Below _ _ _ at hLat; go_simp <;> with_reducible rfl
  try simp only [Act.put, List.setIfInBounds_toArray, List.set_cons_zero, List.set_cons_succ, List.getElem_toArray, List.getElem_cons_zero, List.getElem_cons_succ]
  refine Seq.take_lat (i := 7) (v := ?_) rfl (by kernel_rfl) (by kernel_rfl) (by kernel_rfl) (fun _ _ _ h => h) (by rfl) ?_ ?_
  rotate_left
  · intro w' hLat; change Below _ _ _ at hLat; go_simp <;> with_reducible rfl
  try simp only [Act.put, List.setIfInBounds_toArray, List.set_cons_zero, List.set_cons_succ, List.getElem_toArray, List.getElem_cons_zero, List.getElem_cons_succ]
  refine Seq.take_lat (i := 8) (v := .slice al (len - p) cl) rfl (by kernel_rfl) (by kernel_rfl) (by kernel_rfl) (fun _ _ _ h => h) (by rfl) (fun w' hLat => exec_slice 31 (.tmp 84) (some (.tmp 86)) none rfl _ (hsl w')) ?_
  try simp only [Act.put, List.setIfInBounds_toArray, List.set_cons_zero, List.set_cons_succ, List.getElem_toArray, List.getElem_cons_zero, List.getElem_cons_succ]
  refine Seq.only_lat (i := 9) rfl (by kernel_rfl) (fun KK hK => ?_)
  rw [if_pos (by rfl)]
  go_simp
  refine Calls.mono (C4.out wd (H4'.out.on hd).2.2) ?_
  rintro e w5 ⟨a5, rfl, hB5, hb5⟩
  have H5 : Box (Below w.heap.size w w5 ∧ Bytes w5 a4 p X4 ∧ Bytes w5 a2 len C ∧ Bytes w5 a5 (len - p) X5) := ⟨((H4'.out.on hd).on hb5).2.2, (HB4.out.1.below hd).below hb5, (HB4.out.2.below hd).below hb5, hB5⟩
  refine hK.out _ _ hb5 ?_
  clear hB5 hb5
  clear hK KK
  try simp only [Act.put, List.setIfInBounds_toArray, List.set_cons_zero, List.set_cons_succ, List.getElem_toArray, List.getElem_cons_zero, List.getElem_cons_succ]
  refine Seq.take_lat (i := 10) (v := ?_) rfl (by kernel_rfl) (by kernel_rfl) (by kernel_rfl) (fun _ _ _ h => h) (by rfl) ?_ ?_
  rotate_left
  · intro w' hLat; change Below _ _ _ at hLat; go_simp <;> with_reducible rfl
  try simp only [Act.put, List.setIfInBounds_toArray, List.set_cons_zero, List.set_cons_succ, List.getElem_toArray, List.getElem_cons_zero, List.getElem_cons_succ]
  refine Seq.take_lat (i := 11) (v := ?_) rfl (by kernel_rfl) (by kernel_rfl) (by kernel_rfl) (fun _ _ _ h => h) (by rfl) ?_ ?_
  rotate_left
  · intro w' hLat; change Below _ _ _ at hLat; go_simp <;> with_reducible rfl
  try simp only [Act.put, List.setIfInBounds_toArray, List.set_cons_zero, List.set_cons_succ, List.getElem_toArray, List.getElem_cons_zero, List.getElem_cons_succ]
  refine Seq.take_lat (i := 12) (v := ?_) rfl (by kernel_rfl) (by kernel_rfl) (by kernel_rfl) (fun _ _ _ h => h) (by rfl) ?_ ?_
  rotate_left
  · intro w' hLat; change Below _ _ _ at hLat; go_simp <;> with_reducible rfl
  try simp only [Act.put, List.setIfInBounds_toArray, List.set_cons_zero, List.set_cons_succ, List.getElem_toArray, List.getElem_cons_zero, List.getElem_cons_succ]
  refine Seq.take_lat (i := 13) (v := ?_) rfl (by kernel_rfl) (by kernel_rfl) (by kernel_rfl) (fun _ _ _ h => h) (by rfl) ?_ ?_
  rotate_left
  · intro w' hLat; change Below _ _ _ at hLat; go_simp <;> with_reducible rfl
  try simp only [Act.put, List.setIfInBounds_toArray, List.set_cons_zero, List.set_cons_succ, List.getElem_toArray, List.getElem_cons_zero, List.getElem_cons_succ]
  refine Seq.take_lat (i := 14) (v := ?_) rfl (by kernel_rfl) (by kernel_rfl) (by kernel_rfl) (fun _ _ _ h => h) (by rfl) ?_ ?_
  rotate_left
  · intro w' hLat; change Below _ _ _ at hLat; go_simp <;> with_reducible rfl
  try simp only [Act.put, List.setIfInBounds_toArray, List.set_cons_zero, List.set_cons_succ, List.getElem_toArray, List.getElem_cons_zero, List.getElem_cons_succ]
  refine wpAnyH_done (by kernel_rfl) ?_ _
  have q5 := conv_bytes H5.out.2.1 p
  have q6 := conv_bytes H5.out.2.2.1 len
  have q7 := conv_bytes H5.out.2.2.2 (len - p)
  clear C1 C2 C3 C4 HA HT hsh hsl
  go_wp2
  go_ret
  exact ⟨rfl, H5.out.1⟩

set_option maxRecDepth 20000 in
set_option maxHeartbeats 1000000 in
theorem twice_long (K N : List Int) (a : Option Addr) (len cap : Nat) (k : Int) (w : World) (hT : Tab w) (hm : len ≤ maxLen) (hl : 1000 < (len : Int)) :
    Calls Tryd.prog 5 #[.agg (u8s K), .agg (u8s N), .slice a len cap, .int .u8 k] w fun e w' => e = .returned (.bool true) ∧ Below w.heap.size w w' := by
  unfold maxLen at hm
  have H0 : Box (Below w.heap.size w ((w.alloc (.cells (u8s K) 23)).alloc (.cells (u8s N) 25))) := ⟨((Below.refl _ _).alloc (Nat.le_refl _) _).alloc (by simp) _⟩
  have HA : Box (∀ x, Below w.heap.size w x → Calls Tryd.prog 9 #[] x fun e w' => e = .returned (.bool true) ∧ Below x.heap.size x w') := ⟨fun x hx => awake_any x (hT.below hx)⟩
  clear hT
  go_enter Tryd.func5, Tryd.ntmps5
  go_upto_region 1 with fail
  generalize (w.alloc (.cells (u8s K) 23)).alloc (.cells (u8s N) 25) = x0 at H0 ⊢
  go_wp2_with (go_at_call 9; refine (HA.out x0 H0.out).mono ?_; rintro e w1 ⟨rfl, hb1⟩; have H1 : Box (Below w.heap.size w w1) := ⟨below_to H0.out hb1⟩; clear hb1)
  go_ret
  exact ⟨rfl, H1.out⟩

set_option maxRecDepth 20000 in
set_option maxHeartbeats 2000000 in
theorem twice_short (K N B : List Int) (a : Option Addr) (len cap : Nat) (k : Int) (m : Nat) (w : World) (hT : Tab w) (hKl : K.length = 32) (hKb : Byt K) (hNl : N.length = 12) (hNb : Byt N) (hB : Bytes w a len B) (hl : len ≤ 1000) (hk : 0 ≤ k ∧ k ≤ 255) (h16 : k % 16 = (m : Int)) (hpl : (len : Int) < 64 * (m : Int)) :
    Calls Tryd.prog 5 #[.agg (u8s K), .agg (u8s N), .slice a len cap, .int .u8 k] w fun e w' => e = .returned (.bool true) ∧ Below w.heap.size w w' := by
  have d1 : ¬ 1000 < (len : Int) := by omega
  have hm : m < 16 := by omega
  obtain ⟨C, EC⟩ := named (cr K 5 N B len)
  have HT : Box (∀ x, Below w.heap.size w x → Tab x ∧ Bytes x a len B) := ⟨fun x hx => ⟨hT.below hx, hB.below hx⟩⟩
  have C1 : Box (∀ x, Below w.heap.size w x → Calls Tryd.prog 13 #[.agg (u8s K), .int .u32 5, .agg (u8s N), .slice a len cap] x fun e w' => ∃ a', e = .returned (.tuple #[.slice a' len len, .int .i64 0]) ∧ Bytes w' a' len C ∧ Below x.heap.size x w') := ⟨fun x hx => by rw [← EC.out]; exact crypt_ok a len cap K N B 5 x hKb hKl hNb hNl ⟨by omega, by omega⟩ (HT.out x hx).1 (HT.out x hx).2 (by omega) (by omega)⟩
  have C2 : Box (∀ x a2, Below w.heap.size w x → Bytes x a2 len C → Calls Tryd.prog 13 #[.agg (u8s K), .int .u32 5, .agg (u8s N), .slice a2 len len] x fun e w' => ∃ a', e = .returned (.tuple #[.slice a' len len, .int .i64 0]) ∧ Bytes w' a' len B ∧ Below x.heap.size x w') := ⟨fun x a2 hx h2 => by
    have := crypt_ok a2 len len K N C 5 x hKb hKl hNb hNl ⟨by omega, by omega⟩ (HT.out x hx).1 h2 (by omega) (by omega)
    rw [show cr K 5 N C len = B by rw [← EC.out]; exact cr_twice K 5 N B len hB.2.1 hB.1] at this
    exact this⟩
  have HA : Box (∀ x, Tab x → Calls Tryd.prog 9 #[] x fun e w' => e = .returned (.bool true) ∧ Below x.heap.size x w') := ⟨fun x hx => awake_any x hx⟩
  obtain ⟨S, hS⟩ : ∃ S, w.heap.size = S := ⟨_, rfl⟩
  have HS : Hid (w.heap.size = S) := hS
  have H0 : Box (Tw w ((w.alloc (.cells (u8s K) 23)).alloc (.cells (u8s N) 25)) S K N) := ⟨al_old (al_at hS), al_at (by simp [hS]), ((Below.refl _ _).alloc (Nat.le_refl _) _).alloc (by simp) _⟩
  clear hS hT hB hKb hNb EC
  go_enter Tryd.func5, Tryd.ntmps5
  go_upto_region 1 with fail
  rw [HS.out]
  generalize (w.alloc (.cells (u8s K) 23)).alloc (.cells (u8s N) 25) = x0 at H0 ⊢
  go_wp2_with (first
    | (go_at_call 13; refine Calls.mono (C2.out w2 a2 H2.out.1.2.2 H2.out.2) ?_; rintro e w3 ⟨a3, rfl, hB3, hb3⟩; have q3 := conv_bytes hB3 len; have q4 := conv_bytes (HT.out w3 (below_to H2.out.1.2.2 hb3)).2 cap; have H3 : Box (Below w.heap.size w w3) := ⟨(H2.out.1.on hb3).2.2⟩; clear hB3 hb3)
    | (refine wpList_seeNon (S + 1) N hNl H2.out.1.2.1 rfl (.tmp 5) rfl rfl ?_)
    | (refine wpList_seeKey S K hKl H2.out.1.1 rfl (.tmp 4) rfl rfl ?_)
    | (go_at_call 13; refine Calls.mono (C1.out w1 H1.out.2.2) ?_; rintro e w2 ⟨a2, rfl, hB2, hb2⟩; have H2 : Box (Tw w w2 S K N ∧ Bytes w2 a2 len C) := ⟨H1.out.on hb2, hB2⟩; clear hB2 hb2)
    | (refine wpList_seeNon (S + 1) N hNl H1.out.2.1 rfl (.tmp 5) rfl rfl ?_)
    | (refine wpList_seeKey S K hKl H1.out.1 rfl (.tmp 4) rfl rfl ?_)
    | (go_at_call 9; refine (HA.out x0 (HT.out x0 H0.out.2.2).1).mono ?_; rintro e w1 ⟨rfl, hb1⟩; have H1 : Box (Tw w w1 S K N) := ⟨H0.out.on hb1⟩; have q1 := conv_bytes (HT.out w1 H1.out.2.2).2 cap; clear hb1))
  go_ret
  exact ⟨rfl, H3.out⟩

theorem cipherTwice_walk (K N : List Int) (a : Option Addr) (len cap : Nat) (zs : List Int) (k : Int) (W : World) (hT : Tab W) (hKl : K.length = 32) (hKb : Byt K) (hNl : N.length = 12) (hNb : Byt N) (hR : IsRow .u8 W a len cap zs) (w3 : (Lit.int .u8 k).wf = true) :
    Calls Tryd.prog 5 #[.agg (u8s K), .agg (u8s N), .slice a len cap, .int .u8 k] W fun e w' => e = .returned (.bool true) ∧ Below W.heap.size W w' := by
  have b3 := bounds_u8 w3
  have hB := hR.bytes
  have hcap : len ≤ cap := by
    rcases hR with ⟨_, rfl, rfl, _⟩ | ⟨_, _, h1, _⟩
    · exact Nat.le_refl _
    · exact h1
  by_cases hl : len ≤ 1000
  · obtain ⟨m, h16⟩ : ∃ m : Nat, k % 16 = (m : Int) := ⟨(k % 16).toNat, by omega⟩
    by_cases hpl : 64 * m ≤ len
    · exact twice_in K N (zs.take len) a len cap k m (64 * m) W hT hKl hKb hNl hNb hB hcap hl b3 h16 (by simp) hpl
    · exact twice_short K N (zs.take len) a len cap k m W hT hKl hKb hNl hNb hB hl b3 h16 (by omega)
  · exact twice_long K N a len cap k W hT hR.len (by omega)
end Go.Proofs.YtcdngpknoapmdaaDoor
