/-
  What the reference's New, Inode and Put answer, for every argument.
-/
import Derived.Test.YtniminalkjhfbaaLC
import Derived.Laws.IdiomStrings
namespace Go.Proofs.Ytniminalkjhfbaa
set_option linter.unusedVariables false
open Go.RowKit Plain
theorem str_data (L : List Int) : (strOfNums L).data = (L.map fun n => UInt8.ofNat n.toNat).toArray := rfl
theorem u8_back (z : Int) (h : 0 ≤ z ∧ z ≤ 255) : ((UInt8.ofNat z.toNat).toNat : Int) = z := by simp; omega
theorem str_size (L : List Int) : (strOfNums L).size = L.length := by
  show (strOfNums L).data.size = L.length
  simp [strOfNums]
theorem conv_str (w : World) (L : List Int) (hL : Byt L) : ∃ c w', (convert 9 35 (.string (strOfNums L))).run Try.prog w = .ok (.slice (some ⟨w.heap.size, 0, none⟩) L.length c) w' ∧ Bytes w' (some ⟨w.heap.size, 0, none⟩) L.length L ∧ Below w.heap.size w w' := by
  have h := run_bytes_of_string (P := Try.prog) w 9 35 5 (strOfNums L) Try.underlying9 Try.underlying35 Try.underlying5
  rw [str_size] at h
  refine ⟨_, _, h, ⟨rfl, hL, fun hp => ⟨w.heap.size, 0, rfl, by simp, fun i hi => ?_⟩⟩, ((Below.refl _ _).drew).alloc (Nat.le_refl _) _⟩
  have ha : (w.drew.alloc (.cells (bytesRow (strOfNums L) (grownCap w L.length 0 5)) 5 ((bytesRow (strOfNums L) (grownCap w L.length 0 5)).size, (bytesRow (strOfNums L) (grownCap w L.length 0 5)).size + 1))).heap[w.heap.size]? = some (.cells (bytesRow (strOfNums L) (grownCap w L.length 0 5)) 5 ((bytesRow (strOfNums L) (grownCap w L.length 0 5)).size, (bytesRow (strOfNums L) (grownCap w L.length 0 5)).size + 1)) := al_at rfl
  rw [cell_of_row _ _ _ _ _ _ ha, Nat.zero_add]
  have hb := hL i
  have hg : L.getD i 0 = L[i] := by simp [List.getD, hi]
  rw [hg] at hb ⊢
  unfold bytesRow
  rw [Array.getElem?_append_left (by simp [str_data]; exact hi)]
  simp [str_data, hi]
  omega
theorem index_str (L : List Int) (hL : Byt L) (i : Nat) (hi : i < L.length) (w : World) : (Instr.index 9 (.string (strOfNums L)) (.int .i64 (i : Int))).run Try.prog w = .ok (.int .u8 (L.getD i 0)) w := by
  rw [run_index_string w 9 _ .i64 (i : Int) Try.underlying9, dif_pos ⟨by omega, by rw [str_size]; omega⟩]
  have hb := hL i
  have hg : L.getD i 0 = L[i] := by simp [List.getD, hi]
  rw [hg] at hb ⊢
  have e : ((strOfNums L)[(i : Int).toNat]'(by rw [str_size]; omega)) = UInt8.ofNat (L[i]).toNat := by
    simp only [Int.toNat_natCast]
    show (strOfNums L).data[i]'_ = _
    simp [str_data]
  rw [e, u8_back _ hb]
theorem slice_strH (L : List Int) (hi : Nat) (h2 : hi ≤ L.length) (w : World) : (Instr.sliceAt 9 (.string (strOfNums L)) none (some (.int .i64 (hi : Int))) none).run Try.prog w = .ok (.string (strOfNums (L.take hi))) w := by
  rw [run_sliceAt_string w 9 _ _ _ _ Try.underlying9, run_slice_string_h w 9 _ Try.underlying9 .i64 _ (by omega) (by rw [str_size]; omega)]
  have e : (strOfNums L).extract 0 (hi : Int).toNat = strOfNums (L.take hi) := by
    simp only [Int.toNat_natCast]
    have := ByteArray.extract_mk (L.map fun n => UInt8.ofNat n.toNat) 0 hi
    unfold strOfNums
    rw [this]
    simp
  rw [e]

set_option maxHeartbeats 1000000 in
theorem rnew_few (b i : Int) (w : World) (h : b < 8 ∨ 1024 < b ∨ i < 2 ∨ 500 < i) :
    Calls Try.prog 10 #[.int .i64 b, .int .i64 i] w fun e w' => e = .returned (.tuple #[.agg (lc 0 0 0 0), .int .i64 1]) ∧ Below w.heap.size w w' := by
  have HB : Box (Below w.heap.size w (w.alloc (.cells (lc 0 0 0 0) 28))) := ⟨box_below _ _⟩
  have hr : (w.alloc (.cells (lc 0 0 0 0) 28)).heap[w.heap.size]? = some (.cells (lc 0 0 0 0) 28 (0, 0)) := al_at rfl
  have key : ∃ c1 c2 c3 c4 : Bool, Box (decide (b < 8) = c1) ∧ Box (decide (1024 < b) = c2) ∧ Box (decide (i < 2) = c3) ∧ Box (decide (500 < i) = c4) ∧ (c1 || c2 || c3 || c4) = true := ⟨_, _, _, _, ⟨rfl⟩, ⟨rfl⟩, ⟨rfl⟩, ⟨rfl⟩, by simp; omega⟩
  obtain ⟨c1, c2, c3, c4, e1, e2, e3, e4, ec⟩ := key
  have e1 := e1.out
  have e2 := e2.out
  have e3 := e3.out
  have e4 := e4.out
  clear h
  cases c1 <;> cases c2 <;> cases c3 <;> cases c4 <;> first
    | (exfalso; simp at ec; done)
    | (clear ec
       go_enter Try.func10, Try.ntmps10
       go_upto_region 1 with fail
       change Code.wp _ _ _ _ (w.alloc (.cells (lc 0 0 0 0) 28))
       generalize w.alloc (.cells (lc 0 0 0 0) 28) = x at HB hr ⊢
       go_wp2_with (first
         | (refine wpList_run rfl _ _ (exec_built 28 [] rfl [] rfl _ built_M0) ?_)
         | (refine wpList_stM rfl _ _ rfl w.heap.size 0 0 0 0 _ rfl rfl hr rfl ?_))
       (try simp only [Exit.inBlock, Exit.then])
       refine bodyPost_ret (results_M2 rfl _ _ w.heap.size _ _ _ _ rfl (setRow_heap _ _ _ _ _ _ hr)) rfl ?_
       exact ⟨rfl, below_setRow' HB.out _⟩)


set_option maxHeartbeats 2000000 in
theorem rnew_far (b m : Nat) (w : World) (h1 : 8 ≤ b) (h2 : b ≤ 1024) (h3 : 2 ≤ m) (h4 : m ≤ 500) (h5 : b ≤ 3 + need m) :
    Calls Try.prog 10 #[.int .i64 b, .int .i64 m] w fun e w' => e = .returned (.tuple #[.agg (lc 0 0 0 0), .int .i64 1]) ∧ Below w.heap.size w w' := by
  have HB : Box (Below w.heap.size w (w.alloc (.cells (lc 0 0 0 0) 28))) := ⟨box_below _ _⟩
  have HR : Box ((w.alloc (.cells (lc 0 0 0 0) 28)).heap[w.heap.size]? = some (.cells (lc 0 0 0 0) 28 (0, 0))) := ⟨al_at rfl⟩
  have g1 : ¬ (b : Int) < 8 := by omega
  have g2 : ¬ (1024 : Int) < b := by omega
  have g3 : ¬ (m : Int) < 2 := by omega
  have g4 : ¬ (500 : Int) < m := by omega
  have HU : Box (need m = (m + 4) / 5 ∧ need m ≤ 100) := ⟨rfl, by unfold need; omega⟩
  have hu := HU.out.2
  generalize need m = u at h5 HU hu ⊢
  have H5 : Box (b ≤ 3 + u) := ⟨h5⟩
  clear h5
  go_enter Try.func10, Try.ntmps10
  go_upto_region 1 with fail
  change Code.wp _ _ _ _ (w.alloc (.cells (lc 0 0 0 0) 28))
  generalize w.alloc (.cells (lc 0 0 0 0) 28) = x at HB HR ⊢
  go_wp2
  go_loop [6, 7] (fun d i => ∃ k : Nat, k ≤ u ∧ d = .int .i64 (3 + (k : Int)) ∧ i = .int .i64 (5 * (k : Int))) (fun d _ => 200 - (intOf d).toNat)
  case atStart => exact ⟨0, Nat.zero_le _, rfl, rfl⟩
  case round =>
    obtain ⟨k, hk, rfl, rfl⟩ := hrel
    by_cases hlt : 5 * k < m
    · have g5 : 5 * (k : Int) < (m : Int) := by omega
      have hk2 : k + 1 ≤ u := by have := HU.out.1; omega
      go_wp2
      go_round
      case rel => exact ⟨k + 1, hk2, by congr 1 <;> omega, by congr 1 <;> omega⟩
      case measure => simp [intOf]; omega
    · have g5 : ¬ 5 * (k : Int) < (m : Int) := by omega
      have HK : Box (k = u) := ⟨by have := HU.out.1; omega⟩
      have g6 : (b : Int) ≤ 3 + (k : Int) := by have := H5.out; have := HK.out; omega
      clear hk hlt
      have hr := HR.out
      go_wp2_with (first
        | (refine wpList_run rfl _ _ (exec_built 28 [] rfl [] rfl _ built_M0) ?_)
        | (refine wpList_stM rfl _ _ rfl w.heap.size 0 0 0 0 _ rfl rfl hr rfl ?_))
      (try simp only [Exit.inBlock, Exit.then])
      refine bodyPost_ret (results_M2 rfl _ _ w.heap.size _ _ _ _ rfl (setRow_heap _ _ _ _ _ _ hr)) rfl ?_
      exact ⟨by (try rw [← HK.out]); rfl, below_setRow' HB.out _⟩


set_option maxHeartbeats 2000000 in
theorem rnew_fit (b m : Nat) (w : World) (h1 : 8 ≤ b) (h2 : b ≤ 1024) (h3 : 2 ≤ m) (h4 : m ≤ 500) (h5 : 3 + need m < b) :
    Calls Try.prog 10 #[.int .i64 b, .int .i64 m] w fun e w' => e = .returned (.tuple #[.agg (lc b m 3 (3 + (need m : Nat))), .int .i64 0]) ∧ Below w.heap.size w w' := by
  have HB : Box (Below w.heap.size w (w.alloc (.cells (lc 0 0 0 0) 28))) := ⟨box_below _ _⟩
  have HR : Box ((w.alloc (.cells (lc 0 0 0 0) 28)).heap[w.heap.size]? = some (.cells (lc 0 0 0 0) 28 (0, 0))) := ⟨al_at rfl⟩
  have g1 : ¬ (b : Int) < 8 := by omega
  have g2 : ¬ (1024 : Int) < b := by omega
  have g3 : ¬ (m : Int) < 2 := by omega
  have g4 : ¬ (500 : Int) < m := by omega
  have HU : Box (need m = (m + 4) / 5 ∧ need m ≤ 100) := ⟨rfl, by unfold need; omega⟩
  have hu := HU.out.2
  generalize need m = u at h5 HU hu ⊢
  have H5 : Box (3 + u < b) := ⟨h5⟩
  clear h5
  go_enter Try.func10, Try.ntmps10
  go_upto_region 1 with fail
  change Code.wp _ _ _ _ (w.alloc (.cells (lc 0 0 0 0) 28))
  generalize w.alloc (.cells (lc 0 0 0 0) 28) = x at HB HR ⊢
  go_wp2
  go_loop [6, 7] (fun d i => ∃ k : Nat, k ≤ u ∧ d = .int .i64 (3 + (k : Int)) ∧ i = .int .i64 (5 * (k : Int))) (fun d _ => 200 - (intOf d).toNat)
  case atStart => exact ⟨0, Nat.zero_le _, rfl, rfl⟩
  case round =>
    obtain ⟨k, hk, rfl, rfl⟩ := hrel
    by_cases hlt : 5 * k < m
    · have g5 : 5 * (k : Int) < (m : Int) := by omega
      have hk2 : k + 1 ≤ u := by have := HU.out.1; omega
      go_wp2
      go_round
      case rel => exact ⟨k + 1, hk2, by congr 1 <;> omega, by congr 1 <;> omega⟩
      case measure => simp [intOf]; omega
    · have g5 : ¬ 5 * (k : Int) < (m : Int) := by omega
      have HK : Box (k = u) := ⟨by have := HU.out.1; omega⟩
      have g6 : ¬ (b : Int) ≤ 3 + (k : Int) := by have := H5.out; have := HK.out; omega
      clear hk hlt
      have hr := HR.out
      go_wp2_with (first
        | (refine wpList_run rfl _ _ (exec_built 28 [(0, .tmp 34), (1, .tmp 35), (2, .const (.int .i64 3)), (3, .tmp 36)] rfl [(0, .int .i64 b), (1, .int .i64 m), (2, .int .i64 3), (3, .int .i64 (3 + (k : Int)))] rfl _ (built_M _ _ _ _)) ?_)
        | (refine wpList_stM rfl _ _ rfl w.heap.size b m 3 (3 + (k : Int)) _ rfl rfl hr rfl ?_))
      (try simp only [Exit.inBlock, Exit.then])
      refine bodyPost_ret (results_M2 rfl _ _ w.heap.size _ _ _ _ rfl (setRow_heap _ _ _ _ _ _ hr)) rfl ?_
      exact ⟨by (try rw [← HK.out]); rfl, below_setRow' HB.out _⟩


theorem rnew_any (b i : Int) (w : World) : Calls Try.prog 10 #[.int .i64 b, .int .i64 i] w fun e w' => e = .returned (newV b i) ∧ Below w.heap.size w w' := by
  by_cases h : b < 8 ∨ 1024 < b ∨ i < 2 ∨ 500 < i
  · rw [newV_no (by unfold okL; omega)]
    exact rnew_few b i w h
  · obtain ⟨n, rfl⟩ : ∃ n : Nat, b = n := ⟨b.toNat, by omega⟩
    obtain ⟨m, rfl⟩ : ∃ m : Nat, i = m := ⟨i.toNat, by omega⟩
    have e := need_int m
    by_cases h5 : n ≤ 3 + need m
    · rw [newV_no (by unfold okL; omega)]
      exact rnew_far n m w (by omega) (by omega) (by omega) (by omega) h5
    · rw [newV_ok (by unfold okL; omega), ← e]
      exact rnew_fit n m w (by omega) (by omega) (by omega) (by omega) (by omega)

set_option maxHeartbeats 1000000 in
theorem rinode_any (b i d n : Int) (w : World) (hi : i ≤ 500) : Calls Try.prog 13 #[.agg (lc b i 3 d), .int .i64 n] w fun e w' => e = .returned (inoV i n) ∧ Below w.heap.size w w' := by
  have HB : Box (Below w.heap.size w (w.alloc (.cells (lc b i 3 d) 28))) := ⟨box_below _ _⟩
  have HL : Lay' (w.alloc (.cells (lc b i 3 d) 28)) w.heap.size b i 3 d := al_at rfl
  obtain ⟨_, k1, k2, _⟩ := HL.cells
  clear HL
  by_cases h1 : n < 1
  · rw [inoV_no (.inl h1)]
    go_enter Try.func13, Try.ntmps13
    go_upto_region 1 with fail
    change Code.wp _ _ _ _ (w.alloc (.cells (lc b i 3 d) 28))
    generalize w.alloc (.cells (lc b i 3 d) 28) = x at HB k1 k2 ⊢
    go_wp2
    go_ret3
    exact ⟨rfl, HB.out⟩
  by_cases h2 : i ≤ n
  · rw [inoV_no (.inr h2)]
    go_enter Try.func13, Try.ntmps13
    go_upto_region 1 with fail
    change Code.wp _ _ _ _ (w.alloc (.cells (lc b i 3 d) 28))
    generalize w.alloc (.cells (lc b i 3 d) 28) = x at HB k1 k2 ⊢
    go_wp2
    go_ret3
    exact ⟨rfl, HB.out⟩
  · rw [inoV_ok (by omega) (by omega)]
    obtain ⟨m, rfl⟩ : ∃ m : Nat, n = m := ⟨n.toNat, by omega⟩
    have HM : Box (m ≤ 500) := ⟨by omega⟩
    obtain ⟨q, hq⟩ : ∃ q : Nat, Box ((m : Int) / 5 = q ∧ q = m / 5) := ⟨m / 5, ⟨by omega, rfl⟩⟩
    obtain ⟨r, hr⟩ : ∃ r : Nat, Box ((m : Int) % 5 = r ∧ r = m % 5) := ⟨m % 5, ⟨by omega, rfl⟩⟩
    rw [hq.out.1, hr.out.1]
    go_enter Try.func13, Try.ntmps13
    go_upto_region 1 with fail
    change Code.wp _ _ _ _ (w.alloc (.cells (lc b i 3 d) 28))
    generalize w.alloc (.cells (lc b i 3 d) 28) = x at HB k1 k2 ⊢
    go_wp2
    clear k1 k2 h1 h2 hi
    go_loop [1, 7] (fun u d => ∃ k j : Nat, Box (5 * k + j = m) ∧ j ≤ 500 ∧ k ≤ 100 ∧ d = .int .i64 (3 + (k : Int)) ∧ u = .int .i64 (j : Int)) (fun u _ => (intOf u).toNat)
    case atStart => exact ⟨0, m, ⟨by omega⟩, HM.out, by omega, rfl, rfl⟩
    case round =>
      obtain ⟨k, j, he, hj, hk, rfl, rfl⟩ := hrel
      by_cases hlt : 5 ≤ j
      · have g5 : (5 : Int) ≤ (j : Int) := by omega
        have hk1 : k + 1 ≤ 100 := by have := he.out; have := HM.out; omega
        go_wp2
        go_round
        case rel => exact ⟨k + 1, j - 5, ⟨by have := he.out; omega⟩, by omega, hk1, by congr 1 <;> omega, by congr 1 <;> omega⟩
        case measure => simp [intOf]; omega
      · have g5 : ¬ (5 : Int) ≤ (j : Int) := by omega
        have HE : Box (k = q ∧ j = r) := ⟨by have := he.out; have := hq.out.2; have := hr.out.2; omega⟩
        clear he hq hr HM
        obtain ⟨rfl, rfl⟩ := HE.out
        clear HE
        go_wp2
        go_ret3
        exact ⟨by rw [show (j : Int) * 32 = 32 * (j : Int) by omega]; rfl, HB.out⟩

theorem rput4 (x : Int) (w : World) (h0 : 0 ≤ x) (h1 : x ≤ 1024) :
    Calls Try.prog 21 #[.int .u64 x, .int .i64 4] w fun e w' => ∃ g o c, e = .returned (.slice (some ⟨g, o, none⟩) 4 c) ∧ Bytes w' (some ⟨g, o, none⟩) 4 (bytesOf x 4) ∧ Below w.heap.size w w' :=
  (rput_any x 4 4 w (by omega) (by omega) (by omega)).mono fun e w' ⟨a, c, he, ho⟩ => by
    have hb := ho.bytes (bytesOf_bd x 4)
    obtain ⟨g, o, rfl, _⟩ := hb.2.2 (by omega)
    exact ⟨g, o, c, he, hb, ho.2.2⟩
theorem pre_len (b i : Int) : (hdr ++ bytesOf b 4 ++ bytesOf i 4).length = 12 := by simp [hdr, length_bytesOf]
theorem lb_eq (b i : Int) : lb b i = hdr ++ bytesOf b 4 ++ bytesOf i 4 ++ List.replicate 148 0 := by
  have h := pre_len b i
  unfold lb padTo
  rw [h, List.take_of_length_le (by omega)]
def zro (k : Nat) : List Int := List.replicate k 0
theorem zro_snoc (A : List Int) (k : Nat) : A ++ zro k ++ [0] = A ++ zro (k + 1) := by rw [List.append_assoc, zro, zro, List.replicate_succ']
theorem byt_zro (A : List Int) (k : Nat) (h : Byt A) : Byt (A ++ zro k) := byt_app _ _ h (byt_zeros k)
theorem byt_zero : Byt [0] := byt_cons _ _ (by omega) byt_nil

def vlen : Value → Nat
  | .slice _ n _ => n
  | _ => 0
theorem zstep {w1 wr w8 : World} {B k : Nat} {v v8 : Value} {A : List Int} (h : Pu w1 wr B v (12 + k) (A ++ zro k)) (hw : Box (w8.ownsRow B 5 1 v8 (12 + k + 1) ((A ++ zro k ++ [0]).map (Value.int .u8)) ∧ Below B wr w8 ∧ B ≤ w8.heap.size)) : Box (Pu w1 w8 B v8 (12 + (k + 1)) (A ++ zro (k + 1))) ∧ vlen v8 = 12 + k + 1 := by
  have h1 := h.app hw
  rw [zro_snoc] at h1
  refine ⟨⟨h1⟩, ?_⟩
  obtain ⟨a8, c8, e⟩ := own_form h1.1
  subst e
  rfl

set_option maxRecDepth 20000 in
set_option maxHeartbeats 2000000 in
theorem rlput_any (b i t d : Int) (w : World) (hb : 0 ≤ b ∧ b ≤ 1024) (hi : 0 ≤ i ∧ i ≤ 500) :
    Calls Try.prog 15 #[.agg (lc b i t d)] w fun e w' => e = .returned (.string (strOfNums (lb b i))) ∧ Below w.heap.size w w' := by
  obtain ⟨S, hS⟩ : ∃ S, w.heap.size = S := ⟨_, rfl⟩
  have HS : Box (w.heap.size = S) := ⟨hS⟩
  have H1 : Box (Lay' (w.alloc (.cells (lc b i t d) 28)) S b i t d ∧ (w.alloc (.cells (lc b i t d) 28)).heap.size = S + 1 ∧ Below S w (w.alloc (.cells (lc b i t d) 28))) := ⟨al_at hS, by simp [hS], (Below.refl _ _).alloc (by omega) _⟩
  have HE : Box (hdr ++ bytesOf b 4 ++ bytesOf i 4 ++ zro 148 = lb b i) := ⟨(lb_eq b i).symm⟩
  clear hS
  go_enter Try.func15, Try.ntmps15
  go_upto_region 1 with fail
  rw [HS.out]
  change Code.wp _ _ _ _ (w.alloc (.cells (lc b i t d) 28))
  generalize w.alloc (.cells (lc b i t d) 28) = w1 at H1 ⊢
  have H2 : Box (Bytes (w1.alloc (.cells #[.int .u8 82, .int .u8 76, .int .u8 81, .int .u8 49] 5 (4, 5))) (some ⟨w1.heap.size, 0, none⟩) 4 hdr ∧ Below (S + 1) w1 (w1.alloc (.cells #[.int .u8 82, .int .u8 76, .int .u8 81, .int .u8 49] 5 (4, 5))) ∧ S + 1 ≤ (w1.alloc (.cells #[.int .u8 82, .int .u8 76, .int .u8 81, .int .u8 49] 5 (4, 5))).heap.size) := ⟨byt_lits w1 hdr byt_hdr (4, 5), (Below.refl _ _).alloc (by rw [H1.out.2.1]; exact Nat.le_refl _) _, by simp [H1.out.2.1]⟩
  have kc := fun (w : World) (C : Array Value) (n c : Nat) => Lib.run_convert_bytes_const (P := Try.prog) w 35 5 C n c Try.underlying35 Try.underlying5
  go_upto_region 2 with fail
  clear kc
  generalize w1.alloc (.cells #[.int .u8 82, .int .u8 76, .int .u8 81, .int .u8 49] 5 (4, 5)) = w2 at H2 ⊢
  generalize w1.heap.size = g1 at H2 ⊢
  have HL : Box (∀ x, Below (S + 1) w1 x → Lay' x S b i t d) := ⟨fun x hx => (hx.block S (by omega)).trans H1.out.1⟩
  have k2 := (HL.out _ H2.out.2.1).cells.1
  have W1 : IntKind.u64.wrap b = b := by rw [IntKind.wrap_u64]; omega
  have W2 : IntKind.u64.wrap i = i := by rw [IntKind.wrap_u64]; omega
  go_upto_region 3 with (first
    | (go_at_call 21; (try rw [W1]); refine Calls.mono (rput4 b w2 hb.1 hb.2) ?_; rintro e w3 ⟨g3, o3, c3, rfl, hB3, hb3⟩; have H3 : Box (Bytes w3 (some ⟨g1, 0, none⟩) 4 hdr ∧ Bytes w3 (some ⟨g3, o3, none⟩) 4 (bytesOf b 4) ∧ Below (S + 1) w1 w3 ∧ S + 1 ≤ w3.heap.size) := ⟨H2.out.1.below hb3, hB3, H2.out.2.1.trans (hb3.mono H2.out.2.2), Nat.le_trans H2.out.2.2 hb3.size⟩; clear hB3 hb3)
    | (at_builtin; refine wpList_appG rfl _ _ rfl (S + 1) 4 4 c3 hdr (bytesOf b 4) ⟨g1, 0, none⟩ ⟨g3, o3, none⟩ w1 rfl rfl H3.out.1 H3.out.2.1 (by omega) (by omega) H3.out.2.2.1 H3.out.2.2.2 ?_; intro v4 w4 h4; have H4 : Box (Pu w1 w4 (S + 1) v4 8 (hdr ++ bytesOf b 4)) := h4; clear h4 H3))
  clear k2 H2
  have k4 := (HL.out _ H4.out.2.1).cells.2.1
  go_upto_region 4 with (first
    | (go_at_call 21; (try rw [W2]); refine Calls.mono (rput4 i w4 hi.1 (by omega)) ?_; rintro e w5 ⟨g5, o5, c5, rfl, hB5, hb5⟩; have H5 : Box (Pu w1 w5 (S + 1) v4 8 (hdr ++ bytesOf b 4)) := ⟨H4.out.below hb5⟩)
    | (at_builtin; refine wpList_app rfl _ _ rfl (S + 1) 8 4 c5 _ (hdr ++ bytesOf b 4) (bytesOf i 4) (some ⟨g5, o5, none⟩) w5 rfl rfl H5.out.1 hB5 (by omega) (Below.refl _ _) H5.out.2.2 ?_; intro v6 w6 h6; have H6 : Box (Pu w1 w6 (S + 1) v6 12 (hdr ++ bytesOf b 4 ++ bytesOf i 4)) := ⟨H5.out.app h6⟩; clear h6 hB5 hb5 H5))
  clear k4 H4 HL W1 W2
  have HA : Box (Byt (hdr ++ bytesOf b 4 ++ bytesOf i 4) ∧ Below S w w1 ∧ w1.heap.size = S + 1) := ⟨byt_pre b i, H1.out.2.2, H1.out.2.1⟩
  clear H1
  generalize hdr ++ bytesOf b 4 ++ bytesOf i 4 = A at H6 HE HA
  go_loopw [3] (fun v wr => ∃ k : Nat, k ≤ 148 ∧ Box (Pu w1 wr (S + 1) v (12 + k) (A ++ zro k))) (fun v _ => 200 - vlen v)
  case atStart => exact ⟨0, by omega, ⟨by simpa [zro] using H6.out⟩⟩
  case round =>
    obtain ⟨k, hk, HP⟩ := hrel
    clear H6
    obtain ⟨a, cap, rfl⟩ := own_form HP.out.1
    by_cases hlt : k < 148
    · have g5 : 12 + (k : Int) < 160 := by omega
      have H7 : Box (Pu w1 (wr.alloc (.cells #[.int .u8 0] 5)) (S + 1) (.slice a (12 + k) cap) (12 + k) (A ++ zro k) ∧ Bytes (wr.alloc (.cells #[.int .u8 0] 5)) (some ⟨wr.heap.size, 0, none⟩) 1 [0]) := ⟨HP.out.below (box_below _ _), byt_lits wr [0] byt_zero (0, 0)⟩
      go_wp2_with (at_builtin; refine wpList_app rfl _ _ rfl (S + 1) (12 + k) 1 1 _ (A ++ zro k) [0] (some ⟨wr.heap.size, 0, none⟩) (wr.alloc (.cells #[.int .u8 0] 5)) rfl rfl H7.out.1.1 H7.out.2 (by omega) (Below.refl _ _) H7.out.1.2.2 ?_; intro v8 w8 h8; obtain ⟨H8, hv8⟩ := zstep H7.out.1 h8; clear h8 H7)
      go_roundw
      case rel => exact ⟨k + 1, by omega, H8⟩
      case measure => show 200 - vlen v8 < 200 - (12 + k); omega
    · have g5 : ¬ 12 + (k : Int) < 160 := by omega
      have HK : Box (k = 148) := ⟨by omega⟩
      have H9 : Box (Bytes wr a (12 + k) (A ++ zro k) ∧ Below w.heap.size w wr) := ⟨own_bytes HP.out.1 (byt_zro A k HA.out.1), by rw [HS.out]; exact HA.out.2.1.trans (HP.out.2.1.mono (by omega))⟩
      go_wp2_with (refine wpList_run rfl _ _ (exec_conv (.tmp 24) rfl rfl H9.out.1) ?_)
      go_ret
      exact ⟨by rw [← HE.out, ← HK.out]; rfl, H9.out.2⟩
end Go.Proofs.Ytniminalkjhfbaa
