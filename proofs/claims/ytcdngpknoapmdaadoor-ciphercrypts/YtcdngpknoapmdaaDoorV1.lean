/-
  Bytes under the stream twice; a block of noughts, reckoned by the kernel; strings of bytes.
-/
import Derived.Test.YtcdngpknoapmdaaDoorE1
import Derived.Laws.BytesArg
namespace Go.Proofs.YtcdngpknoapmdaaDoor
set_option linter.unusedVariables false
open Go.RowKit Plain

theorem xr_xr (x y : Int) (hx : 0 ≤ x ∧ x ≤ 255) (hy : 0 ≤ y ∧ y ≤ 255) : xr (xr x y) y = x := by
  obtain ⟨X, rfl⟩ := Int.eq_ofNat_of_zero_le hx.1
  obtain ⟨Y, rfl⟩ := Int.eq_ofNat_of_zero_le hy.1
  have h1 : X ^^^ Y < 2 ^ 8 := Nat.xor_lt_two_pow (by omega) (by omega)
  unfold xr
  rw [u8_xor_nat X Y (by omega) (by omega), u8_xor_nat _ Y (by omega) (by omega), Nat.xor_assoc, Nat.xor_self, Nat.xor_zero]
theorem xr_nought (y : Int) (hy : 0 ≤ y ∧ y ≤ 255) : xr 0 y = y := by
  obtain ⟨Y, rfl⟩ := Int.eq_ofNat_of_zero_le hy.1
  unfold xr
  have := u8_xor_nat 0 Y (by omega) (by omega)
  rw [Nat.zero_xor] at this
  exact this
theorem stm_bd (K : List Int) (c : Int) (N : List Int) (i : Nat) : 0 ≤ stm K c N i ∧ stm K c N i ≤ 255 := byt_blk _ _ _ _
theorem cr_twice (K : List Int) (c : Int) (N B : List Int) (n : Nat) (hB : Byt B) (hl : B.length = n) : cr K c N (cr K c N B n) n = B := by
  apply eq_getD _ _ n (length_cr _ _ _ _ _) hl
  intro i hi
  rw [cr_at _ _ _ _ _ _ hi, cr_at _ _ _ _ _ _ hi, xr_xr _ _ (hB i) (stm_bd _ _ _ _)]
theorem blk_noughts : (blk (List.replicate 32 0) 0 (List.replicate 12 0)).getD 0 0 = 118 ∧ (blk (List.replicate 32 0) 0 (List.replicate 12 0)).getD 1 0 = 184 := by decide +kernel

theorem conv_zero (w : World) (a : Option Addr) (c : Nat) : (convert 31 9 (.slice a 0 c)).run Tryd.prog w = .ok (.string ByteArray.empty) w := by
  rw [run_convert_bytes_string w 31 9 5 a 0 c Tryd.underlying31 Tryd.underlying5 Tryd.underlying9]
  cases a with
  | none => simp [Conv.bytesToString]
  | some a =>
    rw [run_bytesToString w a 0 c [] (by simp [loadCells, loadCellsFrom])]
    rfl
theorem str_nil : strOfNums [] = ByteArray.empty := rfl
theorem conv_bytes {w : World} {a : Option Addr} {len : Nat} {L : List Int} (h : Bytes w a len L) (cap : Nat) : (convert 31 9 (.slice a len cap)).run Tryd.prog w = .ok (.string (strOfNums L)) w := by
  by_cases h0 : len = 0
  · subst h0
    obtain rfl : L = [] := List.eq_nil_of_length_eq_zero h.1
    rw [str_nil]
    exact conv_zero w a cap
  · obtain ⟨b, off, rfl, _, hc⟩ := h.2.2 (by omega)
    exact run_convert_bytes_arg w 31 5 Tryd.underlying31 Tryd.underlying5 b off len cap L h.1 hc 9 Tryd.underlying9

/-- Bytes stored into a block that has just been made. -/
theorem wpList_new8 {ops : Array Oper} {rest : List Oper} {o : Oper} {a : Act} {v : World} {Q : Exit → Act → World → Prop} (t : TypeId) (n : Nat) (ht : (Tryd.prog.info? t).map (·.size) = some n) (w : World) (X : List Int) (hX : X.length = n) (old : Array Value) (hold : old.size = n) (hgd : o.guard = none) (x y : Operand) (ho : o.op = .store t x y)
    (hx : a.eval x = .pointer (some ⟨w.heap.size, 0, none⟩)) (hy : a.eval y = .agg (u8s X)) (hv : v = w.alloc (.cells old t))
    (h : ∀ z, z.heap[w.heap.size]? = some (.cells (u8s X) t (0, 0)) → Below w.heap.size w z → wpList Tryd.prog ops Q rest (a.put o.dst undef) z) : wpList Tryd.prog ops Q (o :: rest) a v := by
  subst hv
  have hs : (u8s X).size = n := by rw [size_u8s, hX]
  exact wpList_store_row hgd t x y ho w.heap.size (u8s X) hx hy t old (al_at rfl) (by rw [hs]; exact ht) (by rw [hs]; exact hold) (all_u8s X)
    (h _ (setRow_heap _ _ _ _ _ _ (al_at rfl)) (below_setRow ((Below.refl _ _).alloc (Nat.le_refl _) _) (Nat.le_refl _) _))
theorem size64 : (Tryd.prog.info? 27).map (·.size) = some 64 := by kernel_rfl
theorem wpList_put64 {ops : Array Oper} {rest : List Oper} {o : Oper} {a : Act} {Q : Exit → Act → World → Prop} (w : World) (X : List Int) (hX : X.length = 64) (hgd : o.guard = none) (x y : Operand) (ho : o.op = .store 27 x y)
    (hx : a.eval x = .pointer (some ⟨w.heap.size, 0, none⟩)) (hy : a.eval y = .agg (u8s X)) (old : Array Value) (hold : old.size = 64)
    (h : ∀ z, z.heap[w.heap.size]? = some (.cells (u8s X) 27 (0, 0)) → Below w.heap.size w z → wpList Tryd.prog ops Q rest (a.put o.dst undef) z) : wpList Tryd.prog ops Q (o :: rest) a (w.alloc (.cells old 27)) :=
  wpList_new8 27 64 size64 w X hX old hold hgd x y ho hx hy rfl h
theorem size12 : (Tryd.prog.info? 25).map (·.size) = some 12 := by kernel_rfl
theorem size32 : (Tryd.prog.info? 23).map (·.size) = some 32 := by kernel_rfl
theorem row_on {w z : World} {g : Nat} {o : Obj} (h : w.heap[g]? = some o) (hb : Below w.heap.size w z) : z.heap[g]? = some o := (hb.block _ (Array.getElem?_eq_some_iff.1 h).1).trans h

set_option maxRecDepth 20000 in
set_option maxHeartbeats 1000000 in
theorem awake_any (w : World) (hT : Tab w) :
    Calls Tryd.prog 9 #[] w fun e w' => e = .returned (.bool true) ∧ Below w.heap.size w w' := by
  obtain ⟨K, EK⟩ := named (List.replicate 32 0)
  obtain ⟨N, EN⟩ := named (List.replicate 12 0)
  obtain ⟨V, EV⟩ := named (non 1 2)
  obtain ⟨X, EX⟩ := named (blk K 0 N)
  obtain ⟨C, EC⟩ := named (cr K 0 V [1, 2, 3] 3)
  have hKl : K.length = 32 := by rw [← EK.out]; simp
  have hKb : Byt K := by rw [← EK.out]; exact byt_zeros 32
  have hNl : N.length = 12 := by rw [← EN.out]; simp
  have hNb : Byt N := by rw [← EN.out]; exact byt_zeros 12
  have hVl : V.length = 12 := by rw [← EV.out]; exact length_non _ _
  have hVb : Byt V := by rw [← EV.out]; exact byt_non _ _
  have hXl : X.length = 64 := by rw [← EX.out]; exact length_blk _ _ _
  have v0 : V.getD 0 0 = 1 := by rw [← EV.out]; decide +kernel
  have v4 : V.getD 4 0 = 2 := by rw [← EV.out]; decide +kernel
  have b0 : X.getD 0 0 = 118 := by rw [← EX.out, ← EK.out, ← EN.out]; exact blk_noughts.1
  have b1 : X.getD 1 0 = 184 := by rw [← EX.out, ← EK.out, ← EN.out]; exact blk_noughts.2
  have hB3 : Byt [1, 2, 3] := byt_cons _ _ (by omega) (byt_cons _ _ (by omega) (byt_cons _ _ (by omega) byt_nil))
  have hC : cr K 0 V C 3 = [1, 2, 3] := by rw [← EC.out]; exact cr_twice K 0 V [1, 2, 3] 3 hB3 rfl
  have c0 : W32 0 := ⟨by omega, by omega⟩
  have HT : Box (∀ x, Below w.heap.size w x → Tab x) := ⟨fun x hx => hT.below hx⟩
  have zK : u8s K = #[.int .u8 0, .int .u8 0, .int .u8 0, .int .u8 0, .int .u8 0, .int .u8 0, .int .u8 0, .int .u8 0, .int .u8 0, .int .u8 0, .int .u8 0, .int .u8 0, .int .u8 0, .int .u8 0, .int .u8 0, .int .u8 0, .int .u8 0, .int .u8 0, .int .u8 0, .int .u8 0, .int .u8 0, .int .u8 0, .int .u8 0, .int .u8 0, .int .u8 0, .int .u8 0, .int .u8 0, .int .u8 0, .int .u8 0, .int .u8 0, .int .u8 0, .int .u8 0] := by rw [← EK.out]; rfl
  have zN : u8s N = #[.int .u8 0, .int .u8 0, .int .u8 0, .int .u8 0, .int .u8 0, .int .u8 0, .int .u8 0, .int .u8 0, .int .u8 0, .int .u8 0, .int .u8 0, .int .u8 0] := by rw [← EN.out]; rfl
  have C1 : Box (Calls Tryd.prog 12 #[.int .u32 1, .int .u64 2] w fun e w' => e = .returned (.agg (u8s V)) ∧ Below w.heap.size w w') := ⟨by rw [← EV.out]; exact nonce_any 1 2 w ⟨by omega, by omega⟩ ⟨by omega, by omega⟩⟩
  have C2 : Box (∀ x, Tab x → Calls Tryd.prog 13 #[.agg (u8s K), .int .u32 0, .agg (u8s V), .slice (some ⟨x.heap.size, 0, none⟩) 3 3] (x.alloc (.cells #[.int .u8 1, .int .u8 2, .int .u8 3] 5)) fun e w' => ∃ a', e = .returned (.tuple #[.slice a' 3 3, .int .i64 0]) ∧ Bytes w' a' 3 C ∧ Below x.heap.size x w') := ⟨fun x hx => by
    have hb : Below x.heap.size x (x.alloc (.cells #[.int .u8 1, .int .u8 2, .int .u8 3] 5)) := (Below.refl _ _).alloc (Nat.le_refl _) _
    refine Calls.mono (crypt_ok _ 3 3 K V [1, 2, 3] 0 _ hKb hKl hVb hVl c0 (hx.below hb) (bytes_of_row (X := [1, 2, 3]) (t := 5) (fr := (0, 0)) hB3 (al_at rfl)) (by omega) (by omega)) ?_
    rintro e w' ⟨a', he, hB, hb'⟩
    rw [EC.out] at hB
    exact ⟨a', he, hB, below_to hb hb'⟩⟩
  have C3 : Box (∀ x a c, Tab x → Bytes x a 3 C → Calls Tryd.prog 13 #[.agg (u8s K), .int .u32 0, .agg (u8s V), .slice a 3 c] x fun e w' => ∃ a', e = .returned (.tuple #[.slice a' 3 3, .int .i64 0]) ∧ Bytes w' a' 3 [1, 2, 3] ∧ Below x.heap.size x w') := ⟨fun x a c hx hB => by
    have := crypt_ok a 3 c K V C 0 x hKb hKl hVb hVl c0 hx hB (by omega) (by omega)
    rw [hC] at this
    exact this⟩
  have C4 : Box (∀ x, Tab x → Calls Tryd.prog 10 #[.agg (u8s K), .int .u32 0, .agg (u8s N)] x fun e w' => e = .returned (.agg (u8s X)) ∧ Below x.heap.size x w') := ⟨fun x hx => by rw [← EX.out]; exact block_any K N 0 x hKb hKl hNb hNl c0 hx⟩
  rw [zK] at C2 C3 C4
  rw [zN] at C4
  have hcv : ∀ (x : World) (a : Option Addr) (c : Nat), Bytes x a 3 [1, 2, 3] → (convert 31 9 (.slice a 3 c)).run Tryd.prog x = .ok (.string { data := #[1, 2, 3] }) x := fun x a c h => conv_bytes h c
  have HCV : Box _ := ⟨hcv⟩
  clear hT EK EN EV EX EC zK zN hcv hC hB3 c0 hKb hVb hNb
  go_enter Tryd.func9, Tryd.ntmps9
  go_upto_region 5 with (first
    | (refine wpList_put64 w4 X hXl rfl (.tmp 6) (.tmp 24) rfl rfl rfl _ rfl ?_; intro z4 hz4 hb4; have H5 : Box (z4.heap[w1.heap.size]? = some (.cells (u8s V) 25 (0, 0)) ∧ z4.heap[w4.heap.size]? = some (.cells (u8s X) 27 (0, 0)) ∧ Bytes z4 a3 3 [1, 2, 3] ∧ Below w.heap.size w z4) := ⟨row_on H4.out.1 hb4, hz4, H4.out.2.1.below hb4, below_to H4.out.2.2 hb4⟩; clear hz4 hb4)
    | (go_at_call 10; refine Calls.mono (C4.out w3 (HT.out _ H3.out.2.2)) ?_; rintro e w4 ⟨rfl, hb⟩; have H4 : Box (w4.heap[w1.heap.size]? = some (.cells (u8s V) 25 (0, 0)) ∧ Bytes w4 a3 3 [1, 2, 3] ∧ Below w.heap.size w w4) := ⟨row_on H3.out.1 hb, H3.out.2.1.below hb, below_to H3.out.2.2 hb⟩; clear hb)
    | (go_at_call 13; refine Calls.mono (C3.out w2 a2 3 (HT.out _ H2.out.2.2) H2.out.2.1) ?_; rintro e w3 ⟨a3, rfl, hB, hb⟩; have H3 : Box (w3.heap[w1.heap.size]? = some (.cells (u8s V) 25 (0, 0)) ∧ Bytes w3 a3 3 [1, 2, 3] ∧ Below w.heap.size w w3) := ⟨row_on H2.out.1 hb, hB, below_to H2.out.2.2 hb⟩; clear hB hb)
    | (refine wpList_seeNon w1.heap.size V hVl H2.out.1 rfl (.tmp 1) rfl rfl ?_)
    | (go_at_call 13; refine Calls.mono (C2.out z1 (HT.out _ H1.out.2)) ?_; rintro e w2 ⟨a2, rfl, hB, hb⟩; have H2 : Box (w2.heap[w1.heap.size]? = some (.cells (u8s V) 25 (0, 0)) ∧ Bytes w2 a2 3 C ∧ Below w.heap.size w w2) := ⟨row_on H1.out.1 hb, hB, below_to H1.out.2 hb⟩; clear hB hb)
    | (refine wpList_seeNon w1.heap.size V hVl H1.out.1 rfl (.tmp 1) rfl rfl ?_)
    | (refine wpList_new8 25 12 size12 w1 V hVl ?old ?hold rfl (.tmp 1) (.tmp 7) rfl rfl rfl ?hv ?_; (case hv => rfl); (case hold => rfl); intro z1 hz hb; have H1 : Box (z1.heap[w1.heap.size]? = some (.cells (u8s V) 25 (0, 0)) ∧ Below w.heap.size w z1) := ⟨hz, below_to H0.out hb⟩; clear hz hb)
    | (go_at_call 12; refine Calls.mono C1.out ?_; rintro e w1 ⟨rfl, hb1⟩; have H0 : Box (Below w.heap.size w w1) := ⟨hb1⟩; clear hb1))
  have d0 := row_cell z4 w1.heap.size 0 V _ _ H5.out.1 (by omega)
  have d4 := row_cell z4 w1.heap.size 4 V _ _ H5.out.1 (by omega)
  have g0 := row_cell z4 w4.heap.size 0 X _ _ H5.out.2.1 (by omega)
  have g1 := row_cell z4 w4.heap.size 1 X _ _ H5.out.2.1 (by omega)
  have q3 := HCV.out z4 a3 3 H5.out.2.2.1
  rw [v0] at d0
  rw [v4] at d4
  rw [b0] at g0
  rw [b1] at g1
  clear C1 C2 C3 C4 HT HCV v0 v4 b0 b1
  go_wp2
  go_ret
  exact ⟨rfl, H5.out.2.2.2⟩
end Go.Proofs.YtcdngpknoapmdaaDoor
