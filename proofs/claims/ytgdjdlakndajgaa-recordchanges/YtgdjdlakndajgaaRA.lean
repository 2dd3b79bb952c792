/-
  The reference's Get of a record's bytes.
-/
import Derived.Test.YtgdjdlakndajgaaR9
namespace Go.Proofs.Ytgdjdlakndajgaa
set_option linter.unusedVariables false
open Go.RowKit Plain

theorem set_row {w : World} {g i : Nat} {cs : Array Value} {t : TypeId} {v : Value} (h : w.heap[g]? = some (.cells cs t (0, 0))) : (w.setCell ⟨g, i, none⟩ v).heap[g]? = some (.cells (cs.setIfInBounds i v) t (0, 0)) := heap_setCell_same w g i cs t v h
theorem set_old {w : World} {g i k : Nat} {v : Value} (h : k ≠ g) : (w.setCell ⟨g, i, none⟩ v).heap[k]? = w.heap[k]? := heap_setCell_other w ⟨g, i, none⟩ k v h
set_option maxRecDepth 20000 in
set_option maxHeartbeats 2000000 in
theorem rrget_ok (L : List Int) (hL : Byt L) (hn : fitR L) (w : World) :
    Calls Try.prog 14 #[.string (strOfNums L)] w fun e w' => e = .returned (.tuple #[.agg (rrc (getP L)).toArray, .int .i64 0]) ∧ Below w.heap.size w w' := by
  have HI : Box (∀ i : Nat, i < L.length → ∀ x, (Instr.index 9 (.string (strOfNums L)) (.int .i64 (i : Int))).run Try.prog x = .ok (.int .u8 (L.getD i 0)) x) := ⟨fun i hi x => index_str L hL i hi x⟩
  have h176 := hn.1
  obtain ⟨a0, a1, ha⟩ := (head_iff L hL).1 hn.2
  have hlast := head_one L hL hn.2
  have hs176 : (strOfNums L).size = 176 := by rw [str_size, h176]
  obtain ⟨q, hq⟩ : ∃ q, num L 8 8 = q := ⟨_, rfl⟩
  obtain ⟨sd, hsd⟩ : ∃ sd, strOfNums (L.drop 16) = sd := ⟨_, rfl⟩
  obtain ⟨lb, hlb⟩ : ∃ lb, (L.getD 1 0 == 1) = lb := ⟨_, rfl⟩
  have HRES : Box ((rrc (getP L)).toArray = #[.int .u64 q, .string sd, .bool lb]) := ⟨by unfold getP rrc; simp only; rw [hq, hsd, hlast, hlb]⟩
  rw [HRES.out]
  have hdr : ∀ x, (Instr.sliceAt 9 (.string (strOfNums L)) (some (.int .i64 16)) none none).run Try.prog x = .ok (.string sd) x := fun x => by rw [← hsd]; exact str_drop L 16 (by omega) x
  have HCs : Box (∀ x, ∃ c w', (convert 9 23 (.string (strOfNums L))).run Try.prog x = .ok (.slice (some ⟨x.heap.size, 0, none⟩) 176 c) w' ∧ Bytes w' (some ⟨x.heap.size, 0, none⟩) 176 L ∧ Below x.heap.size x w') := ⟨fun x => by
    have := conv_str x L hL
    rwa [h176] at this⟩
  have C1 : Box (∀ x a c, Bytes x a 176 L → Calls Try.prog 27 #[.slice a 176 c, .int .i64 8, .int .i64 8] x fun e w' => e = .returned (.tuple #[.int .u64 q, .int .i64 0]) ∧ x = w') := ⟨fun x a c hB => by rw [← hq]; exact rget_ok a 176 c L 8 8 x hB (by unfold maxLen; omega) (by omega) (by omega) (by omega)⟩
  obtain ⟨S, hS⟩ : ∃ S, w.heap.size = S := ⟨_, rfl⟩
  obtain ⟨w2, hw2⟩ : ∃ w2, (w.alloc (.cells #[.int .u64 0, .string ByteArray.empty, .bool false] 39)).alloc (.cells #[.int .u64 0, .string ByteArray.empty, .bool false] 39) = w2 := ⟨_, rfl⟩
  have HT : Box (Tz w w2 S) := ⟨by rw [← hw2, ← hS]; exact tz_new w⟩
  have hsz : (w.alloc (.cells #[.int .u64 0, .string ByteArray.empty, .bool false] 39)).heap.size = S + 1 := by simp [hS]
  obtain ⟨w1, hw1⟩ : ∃ w1, w.alloc (.cells #[.int .u64 0, .string ByteArray.empty, .bool false] 39) = w1 := ⟨_, rfl⟩
  rw [hw1] at hw2 hsz
  generalize strOfNums L = s at HI hs176 HCs hdr ⊢
  have hsz1 : ((s.size : Int) != 176) = false := by simp; omega
  have i0' : ∀ x, (Instr.index 9 (.string s) (.int .i64 0)).run Try.prog x = .ok (.int .u8 (L.getD 0 0)) x := HI.out 0 (by omega)
  have i1' : ∀ x, (Instr.index 9 (.string s) (.int .i64 1)).run Try.prog x = .ok (.int .u8 (L.getD 1 0)) x := HI.out 1 (by omega)
  obtain ⟨z0, hz0⟩ : ∃ z, L.getD 0 0 = z := ⟨_, rfl⟩
  obtain ⟨z1, hz1⟩ : ∃ z, L.getD 1 0 = z := ⟨_, rfl⟩
  rw [hz0] at i0' a0
  rw [hz1] at i1' a1 hlb
  have d0 : (z0 != 1) = false := by simp [a0]
  have d1' : ¬ 1 < z1 := by omega
  have HA : Box ((∀ i, 2 ≤ i → i < 8 → L.getD i 0 = 0) ∧ L.length = 176) := ⟨ha, h176⟩
  clear hn h176 hz0 hz1 a0 hL ha hlast hq hsd
  have HEND : Box (∀ x3 y : World, (w2.setCell ⟨S + 1, 2, none⟩ (.bool lb)) = x3 → Bytes y (some ⟨x3.heap.size, 0, none⟩) 176 L ∧ Below x3.heap.size x3 y → y.heap[S + 1]? = some (.cells #[.int .u64 0, .string ByteArray.empty, .bool lb] 39 (0, 0)) ∧ y.heap[S]? = some (.cells #[.int .u64 0, .string ByteArray.empty, .bool false] 39 (0, 0)) ∧ Below w.heap.size w y) := ⟨fun x3 y h1 h2 => by
    have e1 : x3.heap[S + 1]? = some (.cells #[.int .u64 0, .string ByteArray.empty, .bool lb] 39 (0, 0)) := by rw [← h1, set_row HT.out.r1]; rfl
    have e2 : x3.heap[S]? = some (.cells #[.int .u64 0, .string ByteArray.empty, .bool false] 39 (0, 0)) := by rw [← h1, set_old (by omega)]; exact HT.out.r0
    have e3 : Below w.heap.size w x3 := by rw [← h1]; exact below_set HT.out.bl (by have := HT.out.s0; omega) _
    exact ⟨(h2.2.block _ (Array.getElem?_eq_some_iff.1 e1).1).trans e1, (h2.2.block _ (Array.getElem?_eq_some_iff.1 e2).1).trans e2, below_to e3 h2.2⟩⟩
  have f2 : w2.frozen? ⟨S + 1, 2, none⟩ = false := frozen_of_row w2 (S + 1) 2 _ _ HT.out.r1
  have cc2 : w2.cell? ⟨S + 1, 2, none⟩ = some (.bool false) := by rw [cell_of_row _ _ _ _ _ _ HT.out.r1]; rfl
  go_enter Try.func14, Try.ntmps14
  go_upto_region 2 with (refine atAlloc _ ?_; refine wpList_run rfl _ _ (exec_alloc 39 rfl _ zeroRr) ?_)
  (try simp only [hw2, hsz])
  clear hw1 hw2 hS hsz
  go_wp2
  go_loopw [5] (fun i wr => ∃ k : Nat, 2 ≤ k ∧ k ≤ 8 ∧ i = .int .i64 (k : Int) ∧ w2 = wr) (fun i _ => 8 - (intOf i).toNat)
  case atStart => exact ⟨2, by omega, by omega, rfl, rfl⟩
  case round =>
    obtain ⟨k, hk1, hk2, rfl, rfl⟩ := hrel
    by_cases hlt : k < 8
    · have hk := HI.out k (by have := HA.out.2; omega)
      have hz := HA.out.1 k hk1 hlt
      rw [hz] at hk
      have hw5 : IntKind.i64.wrap ((k : Int) + 1) = ((k + 1 : Nat) : Int) := by rw [IntKind.wrap_i64]; omega
      clear hz
      go_wp2
      go_roundw
      case rel => exact ⟨k + 1, by omega, by omega, by go_num, by trivial⟩
      case measure => simp [intOf]; omega
    · have hk8 : k = 8 := by omega
      clear hk1 hk2 hk8
      go_upto_region 10 with fail
      obtain ⟨x3, hx3⟩ : ∃ x3, (w2.setCell ⟨S + 1, 2, none⟩ (.bool lb)) = x3 := ⟨_, rfl⟩
      (try simp only [hx3])
      obtain ⟨cv, y, hcv1, hcv2⟩ := HCs.out x3
      have HY : Box _ := ⟨HEND.out x3 y hx3 hcv2⟩
      have HBy : Box _ := ⟨hcv2.1⟩
      have f0 : y.frozen? ⟨S + 1, 0, none⟩ = false := frozen_of_row y (S + 1) 0 _ _ HY.out.1
      have cc0 : y.cell? ⟨S + 1, 0, none⟩ = some (.int .u64 0) := by rw [cell_of_row _ _ _ _ _ _ HY.out.1]; rfl
      clear hcv2 hx3 f2 cc2 HEND HCs
      go_upto_region 11 with (go_at_call 27; refine (C1.out y _ cv HBy.out).mono ?_; rintro e x5 ⟨rfl, rfl⟩)
      obtain ⟨y2, hy2⟩ : ∃ y2, y.setCell ⟨S + 1, 0, none⟩ (.int .u64 q) = y2 := ⟨_, rfl⟩
      (try simp only [hy2])
      have HY2 : Box (y2.heap[S + 1]? = some (.cells #[.int .u64 q, .string ByteArray.empty, .bool lb] 39 (0, 0)) ∧ y2.heap[S]? = some (.cells #[.int .u64 0, .string ByteArray.empty, .bool false] 39 (0, 0)) ∧ Below w.heap.size w y2) := ⟨by rw [← hy2, set_row HY.out.1]; rfl, by rw [← hy2, set_old (by omega)]; exact HY.out.2.1, by rw [← hy2]; exact below_set HY.out.2.2 (by have := HT.out.s0; omega) _⟩
      have f1 : y2.frozen? ⟨S + 1, 1, none⟩ = false := frozen_of_row y2 (S + 1) 1 _ _ HY2.out.1
      have cc1 : y2.cell? ⟨S + 1, 1, none⟩ = some (.string ByteArray.empty) := by rw [cell_of_row _ _ _ _ _ _ HY2.out.1]; rfl
      clear hy2 f0 cc0 HY HBy
      go_upto_region 12 with fail
      obtain ⟨y3, hy3⟩ : ∃ y3, y2.setCell ⟨S + 1, 1, none⟩ (.string sd) = y3 := ⟨_, rfl⟩
      (try simp only [hy3])
      have HY3 : Box (y3.heap[S + 1]? = some (.cells #[.int .u64 q, .string sd, .bool lb] 39 (0, 0)) ∧ y3.heap[S]? = some (.cells #[.int .u64 0, .string ByteArray.empty, .bool false] 39 (0, 0)) ∧ Below w.heap.size w y3) := ⟨by rw [← hy3, set_row HY2.out.1]; rfl, by rw [← hy3, set_old (by omega)]; exact HY2.out.2.1, by rw [← hy3]; exact below_set HY2.out.2.2 (by have := HT.out.s0; omega) _⟩
      have HRG : Box (y3.rangeAt (S + 1) 0 [.int .u64 q, .string sd, .bool lb]) := ⟨range_arr HY3.out.1 _ (fun j v hv => by simpa using hv)⟩
      clear hy3 f1 cc1 HY2
      go_wp2_with (first
        | (refine atLoad 39 ?_; refine wpList_ldMid rfl 39 _ _ rfl Try.underlying39 rfl (S + 1) 0 rfl [.int .u64 q, .string sd, .bool lb] infoRr HRG.out ?_)
        | (refine atStore _ ?_; refine wpList_store_row rfl 39 _ _ rfl S #[.int .u64 q, .string sd, .bool lb] rfl rfl 39 _ HY3.out.2.1 infoRr rfl (by simp [Value.oneCell']) ?_))
      refine bodyPost_ret (results_row2 (t := 2) (u := 3) rfl _ Try.underlying39 rfl _ _ S #[.int .u64 q, .string sd, .bool lb] infoRr rfl (setRow_heap _ _ _ _ _ _ HY3.out.2.1)) rfl ?_
      exact ⟨rfl, below_setRow HY3.out.2.2 (Nat.le_of_eq HT.out.s0) _⟩
end Go.Proofs.Ytgdjdlakndajgaa
