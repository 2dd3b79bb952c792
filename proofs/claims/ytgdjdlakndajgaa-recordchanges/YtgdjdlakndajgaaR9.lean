/-
  The reference's Get of records.
-/
import Derived.Test.YtgdjdlakndajgaaR8
namespace Go.Proofs.Ytgdjdlakndajgaa
set_option linter.unusedVariables false
open Go.RowKit Plain

/-- A head, byte by byte. -/
theorem head_iff (L : List Int) (hL : Byt L) : (num L 0 8 = 1 ∨ num L 0 8 = 257) ↔ (L.getD 0 0 = 1 ∧ L.getD 1 0 ≤ 1 ∧ ∀ i, 2 ≤ i → i < 8 → L.getD i 0 = 0) := by
  have e : num L 0 8 = L.getD 0 0 + L.getD 1 0 * 256 + L.getD 2 0 * 65536 + L.getD 3 0 * 16777216 + L.getD 4 0 * 4294967296 + L.getD 5 0 * 1099511627776 + L.getD 6 0 * 281474976710656 + L.getD 7 0 * 72057594037927936 := by
    simp only [num, Nat.zero_add]
    omega
  have h0 := hL 0
  have h1 := hL 1
  have h2 := hL 2
  have h3 := hL 3
  have h4 := hL 4
  have h5 := hL 5
  have h6 := hL 6
  have h7 := hL 7
  constructor
  · intro h
    refine ⟨by omega, by omega, fun i hi1 hi2 => ?_⟩
    have : i = 2 ∨ i = 3 ∨ i = 4 ∨ i = 5 ∨ i = 6 ∨ i = 7 := by omega
    rcases this with rfl | rfl | rfl | rfl | rfl | rfl <;> omega
  · rintro ⟨a0, a1, ha⟩
    have a2 := ha 2 (by omega) (by omega)
    have a3 := ha 3 (by omega) (by omega)
    have a4 := ha 4 (by omega) (by omega)
    have a5 := ha 5 (by omega) (by omega)
    have a6 := ha 6 (by omega) (by omega)
    have a7 := ha 7 (by omega) (by omega)
    omega
theorem head_one (L : List Int) (hL : Byt L) (h : num L 0 8 = 1 ∨ num L 0 8 = 257) : decide (num L 0 8 = 257) = (L.getD 1 0 == 1) := by
  obtain ⟨a0, a1, ha⟩ := (head_iff L hL).1 h
  have h1 := hL 1
  have e : num L 0 8 = L.getD 0 0 + L.getD 1 0 * 256 + L.getD 2 0 * 65536 + L.getD 3 0 * 16777216 + L.getD 4 0 * 4294967296 + L.getD 5 0 * 1099511627776 + L.getD 6 0 * 281474976710656 + L.getD 7 0 * 72057594037927936 := by
    simp only [num, Nat.zero_add]
    omega
  rw [Bool.eq_iff_iff, decide_eq_true_iff, beq_iff_eq, e, a0, ha 2 (by omega) (by omega), ha 3 (by omega) (by omega), ha 4 (by omega) (by omega), ha 5 (by omega) (by omega), ha 6 (by omega) (by omega), ha 7 (by omega) (by omega)]
  omega
def zR : Array Value := #[.int .u64 0, .string ByteArray.empty, .bool false]
/-- Two new blocks of zero records. -/
structure Tz (w w' : World) (S : Nat) : Prop where
  r0 : w'.heap[S]? = some (.cells #[.int .u64 0, .string ByteArray.empty, .bool false] 39 (0, 0))
  r1 : w'.heap[S + 1]? = some (.cells #[.int .u64 0, .string ByteArray.empty, .bool false] 39 (0, 0))
  sz : w'.heap.size = S + 2
  bl : Below w.heap.size w w'
  s0 : w.heap.size = S
theorem tz_new (w : World) : Tz w ((w.alloc (.cells #[.int .u64 0, .string ByteArray.empty, .bool false] 39)).alloc (.cells #[.int .u64 0, .string ByteArray.empty, .bool false] 39)) w.heap.size :=
  ⟨al_old (al_at rfl), al_at (by simp), by simp, ((Below.refl _ _).alloc (Nat.le_refl _) _).alloc (by simp) _, rfl⟩
theorem Tz.range {w w' : World} {S : Nat} (h : Tz w w' S) : w'.rangeAt (S + 1) 0 [.int .u64 0, .string ByteArray.empty, .bool false] := range_arr h.r1 _ (fun j v hv => by simpa using hv)
theorem Tz.fin {w w' : World} {S : Nat} (h : Tz w w' S) (cs : Array Value) : Below w.heap.size w (w'.setRow S cs) := below_setRow h.bl (Nat.le_of_eq h.s0) _
set_option maxRecDepth 20000 in
set_option maxHeartbeats 2000000 in
theorem rrget_no (L : List Int) (hL : Byt L) (hll : L.length ≤ 1000000) (hn : ¬ fitR L) (w : World) :
    Calls Try.prog 14 #[.string (strOfNums L)] w fun e w' => e = .returned (.tuple #[.agg #[.int .u64 0, .string ByteArray.empty, .bool false], .int .i64 11]) ∧ Below w.heap.size w w' := by
  have HI : Box (∀ i : Nat, i < L.length → ∀ x, (Instr.index 9 (.string (strOfNums L)) (.int .i64 (i : Int))).run Try.prog x = .ok (.int .u8 (L.getD i 0)) x) := ⟨fun i hi x => index_str L hL i hi x⟩
  have hs : (strOfNums L).size = L.length := str_size L
  have hbd := hL
  obtain ⟨S, hS⟩ : ∃ S, w.heap.size = S := ⟨_, rfl⟩
  obtain ⟨w2, hw2⟩ : ∃ w2, (w.alloc (.cells #[.int .u64 0, .string ByteArray.empty, .bool false] 39)).alloc (.cells #[.int .u64 0, .string ByteArray.empty, .bool false] 39) = w2 := ⟨_, rfl⟩
  have HT : Box (Tz w w2 S) := ⟨by rw [← hw2, ← hS]; exact tz_new w⟩
  have hsz : (w.alloc (.cells #[.int .u64 0, .string ByteArray.empty, .bool false] 39)).heap.size = S + 1 := by simp [hS]
  obtain ⟨w1, hw1⟩ : ∃ w1, w.alloc (.cells #[.int .u64 0, .string ByteArray.empty, .bool false] 39) = w1 := ⟨_, rfl⟩
  rw [hw1] at hw2 hsz
  generalize strOfNums L = s at HI hs ⊢
  by_cases h176 : L.length = 176
  · have hsz1 : ((s.size : Int) != 176) = false := by simp; omega
    have hs176 : s.size = 176 := by omega
    have i0 := HI.out 0 (by omega)
    have i1 := HI.out 1 (by omega)
    simp only [Int.natCast_zero, Int.natCast_one] at i0 i1
    have i0' : ∀ x, (Instr.index 9 (.string s) (.int .i64 0)).run Try.prog x = .ok (.int .u8 (L.getD 0 0)) x := i0
    have i1' : ∀ x, (Instr.index 9 (.string s) (.int .i64 1)).run Try.prog x = .ok (.int .u8 (L.getD 1 0)) x := i1
    clear i0 i1
    obtain ⟨z0, hz0⟩ : ∃ z, L.getD 0 0 = z := ⟨_, rfl⟩
    obtain ⟨z1, hz1⟩ : ∃ z, L.getD 1 0 = z := ⟨_, rfl⟩
    rw [hz0] at i0'
    rw [hz1] at i1'
    by_cases c0 : z0 = 1
    · have d0 : (z0 != 1) = false := by simp [c0]
      by_cases c1 : z1 ≤ 1
      · have d1 : decide (1 < z1) = false := by simp; omega
        have d1' : ¬ 1 < z1 := by omega
        have HQ : Box (¬ ∀ i, 2 ≤ i → i < 8 → L.getD i 0 = 0) := ⟨fun h => hn ⟨h176, (head_iff L hL).2 ⟨by rw [hz0]; exact c0, by rw [hz1]; exact c1, h⟩⟩⟩
        have HLn : Box (L.length = 176) := ⟨h176⟩
        clear hn h176 hz0 hz1 c0 c1 hL hll hs
        go_enter Try.func14, Try.ntmps14
        go_upto_region 2 with (refine atAlloc _ ?_; refine wpList_run rfl _ _ (exec_alloc 39 rfl _ zeroRr) ?_)
        (try simp only [hw2, hsz])
        clear hw1 hw2 hS hsz
        go_wp2
        go_loopw [5] (fun i wr => ∃ k : Nat, 2 ≤ k ∧ k ≤ 8 ∧ i = .int .i64 (k : Int) ∧ wr = w2 ∧ Box (∀ i, 2 ≤ i → i < k → L.getD i 0 = 0)) (fun i _ => 8 - (intOf i).toNat)
        case atStart => exact ⟨2, by omega, by omega, rfl, rfl, ⟨fun i h1 h2 => by omega⟩⟩
        case round =>
          obtain ⟨k, hk1, hk2, rfl, rfl, HK⟩ := hrel
          by_cases hlt : k < 8
          · have hk := HI.out k (by have := HLn.out; omega)
            have HZ : Box (L.getD k 0 = 0 ∨ ¬ L.getD k 0 = 0) := ⟨Classical.em _⟩
            obtain ⟨z, hz⟩ : ∃ z, L.getD k 0 = z := ⟨_, rfl⟩
            rw [hz] at hk HZ
            have HZE : Box (L.getD k 0 = z) := ⟨hz⟩
            have hw5 : IntKind.i64.wrap ((k : Int) + 1) = ((k + 1 : Nat) : Int) := by rw [IntKind.wrap_i64]; omega
            clear hz
            rcases HZ.out with e | e
            · have dz : (z != 0) = false := by simp [e]
              have HE : Box (z = 0) := ⟨e⟩
              clear e HZ
              go_wp2
              go_roundw
              case rel => exact ⟨k + 1, by omega, by omega, by go_num, by trivial, ⟨fun i h1 h2 => by
                by_cases hik : i = k
                · rw [hik, HZE.out, HE.out]
                · exact HK.out i h1 (by omega)⟩⟩
              case measure => simp [intOf]; omega
            · have dz : (z != 0) = true := by simp [e]
              clear e HZ
              go_wp2_with (first
                | (refine atLoad 39 ?_; refine wpList_ldMid rfl 39 _ _ rfl Try.underlying39 rfl (S + 1) 0 rfl [.int .u64 0, .string ByteArray.empty, .bool false] infoRr HT.out.range ?_)
                | (refine atStore _ ?_; refine wpList_store_row rfl 39 _ _ rfl S #[.int .u64 0, .string ByteArray.empty, .bool false] rfl rfl 39 _ HT.out.r0 infoRr rfl (by simp [Value.oneCell']) ?_))
              refine bodyPost_ret (results_row2 (t := 2) (u := 3) rfl _ Try.underlying39 rfl _ _ S #[.int .u64 0, .string ByteArray.empty, .bool false] infoRr rfl (setRow_heap _ _ _ _ _ _ HT.out.r0)) rfl ?_
              exact ⟨rfl, HT.out.fin _⟩
          · obtain rfl : k = 8 := by omega
            exact absurd HK.out HQ.out
      · have d1 : decide (1 < z1) = true := by simp; omega
        have d1' : 1 < z1 := by omega
        clear hn h176 hz0 hz1 c0 c1 hL hll hs
        go_enter Try.func14, Try.ntmps14
        go_upto_region 2 with (refine atAlloc _ ?_; refine wpList_run rfl _ _ (exec_alloc 39 rfl _ zeroRr) ?_)
        (try simp only [hw2, hsz])
        clear hw1 hw2 hS hsz
        go_wp2_with (first
          | (refine atLoad 39 ?_; refine wpList_ldMid rfl 39 _ _ rfl Try.underlying39 rfl (S + 1) 0 rfl [.int .u64 0, .string ByteArray.empty, .bool false] infoRr HT.out.range ?_)
          | (refine atStore _ ?_; refine wpList_store_row rfl 39 _ _ rfl S #[.int .u64 0, .string ByteArray.empty, .bool false] rfl rfl 39 _ HT.out.r0 infoRr rfl (by simp [Value.oneCell']) ?_))
        refine bodyPost_ret (results_row2 (t := 2) (u := 3) rfl _ Try.underlying39 rfl _ _ S #[.int .u64 0, .string ByteArray.empty, .bool false] infoRr rfl (setRow_heap _ _ _ _ _ _ HT.out.r0)) rfl ?_
        exact ⟨rfl, HT.out.fin _⟩
    · have d0 : (z0 != 1) = true := by simp [c0]
      clear hn h176 hz0 hz1 c0 hL hll hs
      go_enter Try.func14, Try.ntmps14
      go_upto_region 2 with (refine atAlloc _ ?_; refine wpList_run rfl _ _ (exec_alloc 39 rfl _ zeroRr) ?_)
      (try simp only [hw2, hsz])
      clear hw1 hw2 hS hsz
      go_wp2_with (first
        | (refine atLoad 39 ?_; refine wpList_ldMid rfl 39 _ _ rfl Try.underlying39 rfl (S + 1) 0 rfl [.int .u64 0, .string ByteArray.empty, .bool false] infoRr HT.out.range ?_)
        | (refine atStore _ ?_; refine wpList_store_row rfl 39 _ _ rfl S #[.int .u64 0, .string ByteArray.empty, .bool false] rfl rfl 39 _ HT.out.r0 infoRr rfl (by simp [Value.oneCell']) ?_))
      refine bodyPost_ret (results_row2 (t := 2) (u := 3) rfl _ Try.underlying39 rfl _ _ S #[.int .u64 0, .string ByteArray.empty, .bool false] infoRr rfl (setRow_heap _ _ _ _ _ _ HT.out.r0)) rfl ?_
      exact ⟨rfl, HT.out.fin _⟩
  · have hsz1 : ((s.size : Int) != 176) = true := by simp; omega
    have hs176 : ¬ s.size = 176 := by omega
    clear hn h176 hL hll hs
    go_enter Try.func14, Try.ntmps14
    go_upto_region 2 with (refine atAlloc _ ?_; refine wpList_run rfl _ _ (exec_alloc 39 rfl _ zeroRr) ?_)
    (try simp only [hw2, hsz])
    clear hw1 hw2 hS hsz
    go_wp2_with (first
      | (refine atLoad 39 ?_; refine wpList_ldMid rfl 39 _ _ rfl Try.underlying39 rfl (S + 1) 0 rfl [.int .u64 0, .string ByteArray.empty, .bool false] infoRr HT.out.range ?_)
      | (refine atStore _ ?_; refine wpList_store_row rfl 39 _ _ rfl S #[.int .u64 0, .string ByteArray.empty, .bool false] rfl rfl 39 _ HT.out.r0 infoRr rfl (by simp [Value.oneCell']) ?_))
    refine bodyPost_ret (results_row2 (t := 2) (u := 3) rfl _ Try.underlying39 rfl _ _ S #[.int .u64 0, .string ByteArray.empty, .bool false] infoRr rfl (setRow_heap _ _ _ _ _ _ HT.out.r0)) rfl ?_
    exact ⟨rfl, HT.out.fin _⟩
end Go.Proofs.Ytgdjdlakndajgaa
