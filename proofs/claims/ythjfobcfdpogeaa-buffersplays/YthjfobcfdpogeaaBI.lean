/-
  What the Go method Blocks of package buffers tells, and what 'full' of the laws makes.
-/
import Derived.Test.YthjfobcfdpogeaaBH
namespace Go.Proofs.Ythjfobcfdpogeaa
set_option linter.unusedVariables false
open Go.RowKit Plain

def u64s (L : List Int) : Array Value := (L.map (Value.int .u64)).toArray
/-- A row of numbers, filled up by noughts to n. -/
def fil64 (X : List Int) (n : Nat) : Array Value := u64s (X ++ List.replicate (n - X.length) 0)
theorem size_fil64 (X : List Int) (n : Nat) (h : X.length ≤ n) : (fil64 X n).size = n := by simp [fil64, u64s]; omega
theorem fil64_set (X : List Int) (n : Nat) (v : Int) (h : X.length < n) : (fil64 X n).setIfInBounds X.length (.int .u64 v) = fil64 (X ++ [v]) n := by
  obtain ⟨m, hm⟩ : ∃ m, n - X.length = m + 1 := ⟨n - X.length - 1, by omega⟩
  have hm' : n - (X ++ [v]).length = m := by simp; omega
  unfold fil64 u64s
  rw [hm, hm']
  simp [List.replicate_succ]
theorem fil64_full (X : List Int) (n : Nat) (h : X.length = n) : fil64 X n = u64s X := by simp [fil64, h]
theorem fil64_some (X : List Int) (n i : Nat) (h : i < n) (hX : X.length ≤ n) : ∃ v, (fil64 X n)[i]? = some v := by
  have : i < (fil64 X n).size := by rw [size_fil64 X n hX]; exact h
  exact ⟨_, Array.getElem?_eq_getElem this⟩
theorem exec_make {P : Program} {o : Oper} {ρ : Operand → Value} {w : World} (t e : TypeId) (l c : Operand) (ho : o.op = .makeSlice t l c) (z : Value) (size bytes : Nat) (ht : P.underlying t = some (.slice e)) (hi : (P.info? e).map (fun i => (i.zero, i.size, i.bytes)) = some (some z, size, bytes))
    (n : Nat) (hl : ρ l = .int .i64 (n : Int)) (hc : ρ c = .int .i64 (n : Int)) (hb : bytes * n ≤ 281474976710656) (h63 : n ≤ 9223372036854775807) :
    (execOp ρ o).run P w = .ok (.value (.slice (some ⟨w.heap.size, 0, none⟩) n n)) (w.alloc (.cells (madeCells z.cells (n * size)) e)) := by
  obtain ⟨i, hi1, hz, rfl, rfl⟩ := info_parts hi
  have hb' : (i.bytes : Int) * (n : Int) ≤ 281474976710656 := by
    have h : ((i.bytes * n : Nat) : Int) ≤ 281474976710656 := by omega
    rwa [Int.natCast_mul] at h
  have hr := run_make (P := P) w t e i z ht hi1 hz .i64 .i64 n n (by omega) (Int.le_refl _) hb' (by omega)
  unfold execOp
  simp only [ho, hl, hc, hr, Sem.run_bind, Sem.run_pure, Result.andThen_ok, Int.toNat_natCast]
theorem made_at (z : Array Value) (n i : Nat) (v : Value) (hi : i < n) (hz : 0 < z.size) (h : ∀ j, j < z.size → z[j]? = some v) : (madeCells z n)[i]? = some v := by
  have h1 : i % z.size < z.size := Nat.mod_lt _ hz
  have h2 := h _ h1
  rw [Array.getElem?_eq_getElem h1] at h2
  simp only [Option.some.injEq] at h2
  simp [madeCells, hi, h1, h2]
theorem size_made (z : Array Value) (n : Nat) : (madeCells z n).size = n := by simp [madeCells]
theorem made_one (v : Value) (n : Nat) : madeCells #[v] n = Array.replicate n v := by
  apply Array.ext
  · rw [size_made, Array.size_replicate]
  · intro i h1 h2
    have hi : i < n := by rw [size_made] at h1; exact h1
    have a1 := made_at #[v] n i v hi (by simp) (fun j hj => by simp at hj; subst hj; rfl)
    rw [Array.getElem?_eq_getElem h1] at a1
    simp only [Option.some.injEq] at a1
    rw [a1]
    simp
theorem made_64 (n : Nat) : madeCells (Value.int .u64 0).cells (n * 1) = fil64 [] n := by
  rw [Nat.mul_one]
  show madeCells #[.int .u64 0] n = _
  rw [made_one]
  simp [fil64, u64s]
theorem made_8 (n : Nat) : madeCells (Value.int .u8 0).cells (n * 1) = fil8 [] n := by
  rw [Nat.mul_one]
  show madeCells #[.int .u8 0] n = _
  rw [made_one]
  simp [fil8, u8s]
theorem info29 : (Try.prog.info? 29).map (fun i => (i.zero, i.size, i.bytes)) = some (some (.int .u64 0), 1, 8) := by kernel_rfl
set_option maxRecDepth 20000 in
set_option maxHeartbeats 2000000 in
theorem blocks_any (w : World) (B C : Nat) (n : Int) (L : List Kp) (h : Cc w B C n L) :
    Calls Try.prog 21 #[.pointer (some ⟨C, 0, none⟩)] w fun e w' => (∃ S, e = .returned (.slice (some ⟨S, 0, none⟩) L.length L.length) ∧ w.heap.size ≤ S ∧ w'.heap[S]? = some (.cells (u64s (L.map (·.b))) 29 (0, 0))) ∧ Below w.heap.size w w' := by
  obtain ⟨⟨rv, h1⟩, h2⟩ := h
  obtain ⟨a, cap, rfl, _, _⟩ := h1.row.form
  have hlen := h1.len
  obtain ⟨S, hS0⟩ : ∃ S, w.heap.size = S := ⟨_, rfl⟩
  have hb0 : Below w.heap.size w (w.alloc (.cells (fil64 [] L.length) 29)) := (Below.refl _ _).alloc (Nat.le_refl _) _
  obtain ⟨-, c1, -⟩ := h1.cells
  obtain ⟨-, c2, -⟩ := (h1.below hb0).cells
  have HW : Box (Ways w a L) := ⟨h1.row.ways⟩
  have HB : Box (Below w.heap.size w (w.alloc (.cells (fil64 [] L.length) 29)) ∧ (w.alloc (.cells (fil64 [] L.length) 29)).heap[S]? = some (.cells (fil64 [] L.length) 29 (0, 0)) ∧ w.heap.size = S) := ⟨hb0, al_at hS0, hS0⟩
  have HM : Box (madeCells #[.int .u64 0] L.length = fil64 [] L.length) := ⟨by have := made_64 L.length; rw [Nat.mul_one] at this; exact this⟩
  have HX : Box (8 * L.length ≤ 281474976710656 ∧ L.length ≤ 9223372036854775807) := ⟨by omega, by omega⟩
  clear h1 h2 hb0
  go_enter Try.func21, Try.ntmps21
  go_upto_region 4 with (refine wpList_run rfl _ _ (exec_make 46 29 _ _ rfl (.int .u64 0) 1 8 Try.underlying46 info29 L.length rfl rfl HX.out.1 HX.out.2) ?_)
  rw [HM.out]
  (try simp only [hS0])
  generalize w.alloc (.cells (fil64 [] L.length) 29) = w1 at HB c2 ⊢
  clear HM HX hS0 c1
  go_wp2
  go_loopw [19] (fun j wr => ∃ k : Nat, k ≤ L.length ∧ j = .int .i64 k ∧ Box (Below w.heap.size w wr ∧ wr.heap[S]? = some (.cells (fil64 ((L.take k).map (·.b)) L.length) 29 (0, 0)))) (fun j _ => L.length - (intOf j).toNat)
  case atStart => exact ⟨0, Nat.zero_le _, rfl, ⟨HB.out.1, by simpa using HB.out.2.1⟩⟩
  case round =>
    obtain ⟨k, hk, rfl, HI⟩ := hrel
    by_cases hlt : k < L.length
    · obtain ⟨g, rfl, hg, hr⟩ := HW.out.below HI.out.1 (show 0 < L.length by omega)
      have Hr : Box (wr.rangeAt g (k * 3) (kc L[k])) := ⟨hr k hlt⟩
      have hN := laid_new wr #[.int .u64 0, .slice none 0 0, .int .u64 0] 60 (kc L[k]) rfl
      have HT : Box ((wr.alloc (.cells #[.int .u64 0, .slice none 0 0, .int .u64 0] 60)).there wr.heap.size 0 (kc L[k]).toArray.size) := ⟨there_row (al_at rfl) (Nat.le_refl _)⟩
      have hSl : S < wr.heap.size := (Array.getElem?_eq_some_iff.1 HI.out.2).1
      have hXl : ((L.take k).map (·.b)).length = k := by rw [List.length_map, List.length_take]; omega
      have H2 : Box (Below w.heap.size w ((wr.alloc (.cells #[.int .u64 0, .slice none 0 0, .int .u64 0] 60)).setCells wr.heap.size 0 (kc L[k]).toArray.toList) ∧ ((wr.alloc (.cells #[.int .u64 0, .slice none 0 0, .int .u64 0] 60)).setCells wr.heap.size 0 (kc L[k]).toArray.toList).cell? ⟨wr.heap.size, 0, none⟩ = some (.int .u64 L[k].b) ∧ ((wr.alloc (.cells #[.int .u64 0, .slice none 0 0, .int .u64 0] 60)).setCells wr.heap.size 0 (kc L[k]).toArray.toList).heap[S]? = some (.cells (fil64 ((L.take k).map (·.b)) L.length) 29 (0, 0))) := ⟨HI.out.1.trans (hN.1.mono HI.out.1.size), by rw [cell_of_row _ _ _ _ _ _ hN.2.2]; rfl, (hN.1.block S hSl).trans HI.out.2⟩
      obtain ⟨wo, hwo⟩ : ∃ wo, wo = wr := ⟨_, rfl⟩
      obtain ⟨x, hx⟩ : ∃ x, L[k] = x := ⟨_, rfl⟩
      have Hx : Box (L[k] = x ∧ ((L.take k).map (·.b)).length = k) := ⟨hx, hXl⟩
      rw [hx] at Hr HT H2
      obtain ⟨Q, hQ⟩ : ∃ Q, wr.heap.size = Q := ⟨_, rfl⟩
      rw [hQ] at HT H2
      clear hr hN hSl hx hwo HI hXl
      go_upto_region 7 with (first
        | (refine atAlloc _ ?_; refine wpList_run rfl _ _ (exec_alloc 60 rfl _ zeroK) ?_)
        | (refine atStore _ ?_; (try simp only [hQ]); refine wpList_store_mid rfl 60 _ _ rfl Q 0 (kc x).toArray rfl rfl HT.out sizeK (by simp [kc, Value.oneCell']) ?_)
        | (refine atLoad _ ?_; refine wpList_load_mid rfl 60 _ rfl g (k * 3) rfl (kc x) _ Hr.out Try.underlying60 rfl sizeK ?_))
      (try simp only [hQ])
      generalize (wr.alloc (.cells #[.int .u64 0, .slice none 0 0, .int .u64 0] 60)).setCells Q 0 (kc x).toArray.toList = w2 at H2 ⊢
      clear hQ HT Hr
      have d0 := H2.out.2.1
      have d1 : ∃ v, w2.cell? ⟨S, k, none⟩ = some v := by
        rw [cell_of_row _ _ _ _ _ _ H2.out.2.2]
        exact fil64_some _ _ _ hlt (by rw [Hx.out.2]; omega)
      obtain ⟨v1, d1⟩ := d1
      have f1 : w2.frozen? ⟨S, k, none⟩ = false := frozen_of_row w2 S _ _ _ H2.out.2.2
      have H3 : Box (Below w.heap.size w (w2.setCell ⟨S, k, none⟩ (.int .u64 x.b)) ∧ (w2.setCell ⟨S, k, none⟩ (.int .u64 x.b)).heap[S]? = some (.cells (fil64 ((L.take (k + 1)).map (·.b)) L.length) 29 (0, 0))) := ⟨below_set H2.out.1 (by rw [HB.out.2.2]; exact Nat.le_refl _) _, by
        rw [heap_setCell_same w2 S k _ _ _ H2.out.2.2]
        have := fil64_set ((L.take k).map (·.b)) L.length x.b (by rw [Hx.out.2]; exact hlt)
        rw [Hx.out.2] at this
        rw [this, ← List.take_append_getElem hlt, List.map_append, Hx.out.1]
        rfl⟩
      go_wp2
      exact ⟨⟨k + 1, by omega, by simp, H3⟩, by simp [intOf]; omega⟩
    · obtain rfl : k = L.length := by omega
      go_wp2
      go_ret
      refine ⟨⟨S, rfl, by rw [HB.out.2.2]; exact Nat.le_refl _, ?_⟩, HI.out.1⟩
      rw [HI.out.2, List.take_of_length_le (Nat.le_refl _), fil64_full _ _ (by simp)]
theorem blocks_none (w : World) : Calls Try.prog 21 #[.pointer none] w fun e w' => e = .returned (.slice none 0 0) ∧ w = w' := by
  go_enter Try.func21, Try.ntmps21
  go_wp2
  go_ret
  exact ⟨rfl, rfl⟩
/-- Bytes filled up with noughts, or cut, to n. -/
def fl (bs : List Int) (n : Nat) : List Int := bs.take n ++ List.replicate (n - bs.length) 0
theorem length_fl (bs : List Int) (n : Nat) : (fl bs n).length = n := by simp [fl]; omega
theorem byt_fl (bs : List Int) (n : Nat) (h : Byt bs) : Byt (fl bs n) := byt_app _ _ (byt_take _ _ h) (byt_zeros _)
def shn (s : Bool) : Nat := if s then 159 else 160
set_option maxRecDepth 20000 in
set_option maxHeartbeats 2000000 in
theorem full_any (w : World) (a : Option Addr) (l c : Nat) (bs : List Int) (hb : Bytes w a l bs) (hl : l ≤ 9223372036854775807) (s : Bool) :
    Calls Try.prog 10 #[.slice a l c, .bool s] w fun e w' => (∃ S, e = .returned (.slice (some ⟨S, 0, none⟩) (shn s) (shn s)) ∧ w.heap.size ≤ S ∧ w'.heap[S]? = some (.cells (u8s (fl bs (shn s))) 5 (0, 0))) ∧ Below w.heap.size w w' := by
  obtain ⟨S, hS0⟩ : ∃ S, w.heap.size = S := ⟨_, rfl⟩
  obtain ⟨N, hN⟩ : ∃ N, shn s = N := ⟨_, rfl⟩
  have hN2 : N ≤ 160 := by rw [← hN]; unfold shn; split <;> omega
  have HM : Box (madeCells #[.int .u8 0] N = fil8 [] N) := ⟨by have := made_8 N; rw [Nat.mul_one] at this; exact this⟩
  have HB : Box (Below w.heap.size w (w.alloc (.cells (fil8 [] N) 5)) ∧ (w.alloc (.cells (fil8 [] N) 5)).heap[S]? = some (.cells (fil8 [] N) 5 (0, 0)) ∧ w.heap.size = S) := ⟨(Below.refl _ _).alloc (Nat.le_refl _) _, al_at hS0, hS0⟩
  have HX : Box (1 * N ≤ 281474976710656 ∧ N ≤ 9223372036854775807) := ⟨by omega, by omega⟩
  have HK : Box (Bytes w a l bs) := ⟨hb⟩
  have hbl := hb.1
  have HE : Box (shn s = N ∧ bs.length = l) := ⟨hN, hbl⟩
  rw [hN]
  have HV : Box ((s = true ∧ N = 159) ∨ (s = false ∧ N = 160)) := ⟨by rw [← hN]; unfold shn; cases s <;> simp⟩
  clear hb hN hbl
  cases s
  · have hNv : (160 : Int) = ((N : Nat) : Int) := by rcases HV.out with ⟨h, e⟩ | ⟨h, e⟩ <;> first | (cases h; done) | (rw [e]; rfl)
    go_enter Try.func10, Try.ntmps10
    go_upto_region 4 with fail
    rw [hNv]
    clear HV hNv
    go_upto_region 5 with (refine wpList_run rfl _ _ (exec_make 30 5 _ _ rfl (.int .u8 0) 1 1 Try.underlying30 info5 N rfl rfl HX.out.1 HX.out.2) ?_)
    rw [HM.out]
    (try simp only [hS0])
    generalize w.alloc (.cells (fil8 [] N) 5) = w1 at HB ⊢
    clear HM HX hS0
    go_wp2
    go_loopw [7] (fun j wr => ∃ k : Nat, k ≤ N ∧ k ≤ l ∧ j = .int .i64 k ∧ Box (Below w.heap.size w wr ∧ wr.heap[S]? = some (.cells (fil8 (bs.take k) N) 5 (0, 0)))) (fun j _ => N - (intOf j).toNat)
    case atStart => exact ⟨0, Nat.zero_le _, Nat.zero_le _, rfl, ⟨HB.out.1, by simpa using HB.out.2.1⟩⟩
    case round =>
      obtain ⟨k, hk, hkl, rfl, HI⟩ := hrel
      by_cases h1 : k < l
      · by_cases h2 : k < N
        · obtain ⟨b, off, rfl, hlt, hc⟩ := (HK.out.below HI.out.1).2.2 (by omega)
          have d0 := hc k h1
          have hbk : (bs.take k).length = k := by rw [List.length_take, HE.out.2]; omega
          obtain ⟨v1, hv1⟩ := fil8_some (bs.take k) N k h2 (by omega)
          have d1 : wr.cell? ⟨S, k, none⟩ = some v1 := by rw [cell_of_row _ _ _ _ _ _ HI.out.2]; exact hv1
          have f1 : wr.frozen? ⟨S, k, none⟩ = false := frozen_of_row wr S _ _ _ HI.out.2
          have H3 : Box (Below w.heap.size w (wr.setCell ⟨S, k, none⟩ (.int .u8 (bs.getD k 0))) ∧ (wr.setCell ⟨S, k, none⟩ (.int .u8 (bs.getD k 0))).heap[S]? = some (.cells (fil8 (bs.take (k + 1)) N) 5 (0, 0))) := ⟨below_set HI.out.1 (by rw [HB.out.2.2]; exact Nat.le_refl _) _, by
            rw [heap_setCell_same wr S k _ _ _ HI.out.2]
            have := fil8_set (bs.take k) N (bs.getD k 0) (by omega)
            rw [hbk] at this
            rw [this]
            have hkb : k < bs.length := by rw [HE.out.2]; exact h1
            rw [← List.take_append_getElem hkb]
            simp [List.getD, hkb]⟩
          generalize bs.getD k 0 = z at d0 H3
          clear hc hv1 hbk
          go_wp2
          exact ⟨⟨k + 1, by omega, by omega, by simp, H3⟩, by simp [intOf]; omega⟩
        · have hkN : Box (k = N) := ⟨by omega⟩
          have HJ : Box (fil8 (bs.take k) N = u8s (fl bs N)) := ⟨by
            have := HE.out.2
            rw [fil8_full _ _ (by rw [List.length_take]; omega), fl, hkN.out, show N - bs.length = 0 by omega]
            simp⟩
          go_wp2
          go_ret
          exact ⟨⟨S, rfl, by rw [HB.out.2.2]; exact Nat.le_refl _, by rw [← HJ.out]; exact HI.out.2⟩, HI.out.1⟩
      · have hkl2 : Box (k = l) := ⟨by omega⟩
        have HJ : Box (fil8 (bs.take k) N = u8s (fl bs N)) := ⟨by
          have := HE.out.2
          rw [hkl2.out, ← HE.out.2, List.take_of_length_le (Nat.le_refl _), fil8, fl, List.take_of_length_le (by have := hkl2.out; omega)]⟩
        go_wp2
        go_ret
        exact ⟨⟨S, rfl, by rw [HB.out.2.2]; exact Nat.le_refl _, by rw [← HJ.out]; exact HI.out.2⟩, HI.out.1⟩
  · have hNv : (159 : Int) = ((N : Nat) : Int) := by rcases HV.out with ⟨h, e⟩ | ⟨h, e⟩ <;> first | (cases h; done) | (rw [e]; rfl)
    go_enter Try.func10, Try.ntmps10
    go_upto_region 4 with fail
    rw [hNv]
    clear HV hNv
    go_upto_region 5 with (refine wpList_run rfl _ _ (exec_make 30 5 _ _ rfl (.int .u8 0) 1 1 Try.underlying30 info5 N rfl rfl HX.out.1 HX.out.2) ?_)
    rw [HM.out]
    (try simp only [hS0])
    generalize w.alloc (.cells (fil8 [] N) 5) = w1 at HB ⊢
    clear HM HX hS0
    go_wp2
    go_loopw [7] (fun j wr => ∃ k : Nat, k ≤ N ∧ k ≤ l ∧ j = .int .i64 k ∧ Box (Below w.heap.size w wr ∧ wr.heap[S]? = some (.cells (fil8 (bs.take k) N) 5 (0, 0)))) (fun j _ => N - (intOf j).toNat)
    case atStart => exact ⟨0, Nat.zero_le _, Nat.zero_le _, rfl, ⟨HB.out.1, by simpa using HB.out.2.1⟩⟩
    case round =>
      obtain ⟨k, hk, hkl, rfl, HI⟩ := hrel
      by_cases h1 : k < l
      · by_cases h2 : k < N
        · obtain ⟨b, off, rfl, hlt, hc⟩ := (HK.out.below HI.out.1).2.2 (by omega)
          have d0 := hc k h1
          have hbk : (bs.take k).length = k := by rw [List.length_take, HE.out.2]; omega
          obtain ⟨v1, hv1⟩ := fil8_some (bs.take k) N k h2 (by omega)
          have d1 : wr.cell? ⟨S, k, none⟩ = some v1 := by rw [cell_of_row _ _ _ _ _ _ HI.out.2]; exact hv1
          have f1 : wr.frozen? ⟨S, k, none⟩ = false := frozen_of_row wr S _ _ _ HI.out.2
          have H3 : Box (Below w.heap.size w (wr.setCell ⟨S, k, none⟩ (.int .u8 (bs.getD k 0))) ∧ (wr.setCell ⟨S, k, none⟩ (.int .u8 (bs.getD k 0))).heap[S]? = some (.cells (fil8 (bs.take (k + 1)) N) 5 (0, 0))) := ⟨below_set HI.out.1 (by rw [HB.out.2.2]; exact Nat.le_refl _) _, by
            rw [heap_setCell_same wr S k _ _ _ HI.out.2]
            have := fil8_set (bs.take k) N (bs.getD k 0) (by omega)
            rw [hbk] at this
            rw [this]
            have hkb : k < bs.length := by rw [HE.out.2]; exact h1
            rw [← List.take_append_getElem hkb]
            simp [List.getD, hkb]⟩
          generalize bs.getD k 0 = z at d0 H3
          clear hc hv1 hbk
          go_wp2
          exact ⟨⟨k + 1, by omega, by omega, by simp, H3⟩, by simp [intOf]; omega⟩
        · have hkN : Box (k = N) := ⟨by omega⟩
          have HJ : Box (fil8 (bs.take k) N = u8s (fl bs N)) := ⟨by
            have := HE.out.2
            rw [fil8_full _ _ (by rw [List.length_take]; omega), fl, hkN.out, show N - bs.length = 0 by omega]
            simp⟩
          go_wp2
          go_ret
          exact ⟨⟨S, rfl, by rw [HB.out.2.2]; exact Nat.le_refl _, by rw [← HJ.out]; exact HI.out.2⟩, HI.out.1⟩
      · have hkl2 : Box (k = l) := ⟨by omega⟩
        have HJ : Box (fil8 (bs.take k) N = u8s (fl bs N)) := ⟨by
          have := HE.out.2
          rw [hkl2.out, ← HE.out.2, List.take_of_length_le (Nat.le_refl _), fil8, fl, List.take_of_length_le (by have := hkl2.out; omega)]⟩
        go_wp2
        go_ret
        exact ⟨⟨S, rfl, by rw [HB.out.2.2]; exact Nat.le_refl _, by rw [← HJ.out]; exact HI.out.2⟩, HI.out.1⟩
end Go.Proofs.Ythjfobcfdpogeaa
