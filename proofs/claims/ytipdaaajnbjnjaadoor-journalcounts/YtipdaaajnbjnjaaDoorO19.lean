/-
  What the Go functions read and begin of package cipher answer, and the reference's at: the words at first.
-/
import Derived.Test.YtipdaaajnbjnjaaDoorO18
import Derived.Test.YtipdaaajnbjnjaaDoorO02
namespace Go.Proofs.YtipdaaajnbjnjaaDoor.Seal.Plain
set_option maxRecDepth 100000
end Go.Proofs.YtipdaaajnbjnjaaDoor.Seal.Plain
namespace Go.Proofs.YtipdaaajnbjnjaaDoor.Seal
set_option maxRecDepth 100000
set_option linter.unusedVariables false
open Go.RowKit Go.Proofs.YtipdaaajnbjnjaaDoor.Plain Go.Proofs.YtipdaaajnbjnjaaDoor.Seal.Plain
theorem get_k (a : Option Addr) (len cap : Nat) (L : List Int) (p n : Nat) (pi ni : Int) (w : World) (hb : Bytes w a len L) (hl : len ≤ maxLen) (hn1 : 1 ≤ n) (hn2 : n ≤ 8) (hp : p + n ≤ len) (h1 : pi = p) (h2 : ni = n) :
    Calls Tryd.prog 101 #[.slice a len cap, .int .i64 pi, .int .i64 ni] w fun e w' => e = .returned (.tuple #[.int .u64 (num L p n), .int .i64 0]) ∧ w = w' := by
  subst h1; subst h2; exact get_ok a len cap L p n w hb hl hn1 hn2 hp
set_option maxHeartbeats 400000 in
theorem read_any (a : Option Addr) (len cap : Nat) (B : List Int) (i : Nat) (w : World) (hb : Bytes w a len B) (hl : len ≤ 1000) (hi : 4 * i + 4 ≤ len) :
    Calls Tryd.prog 99 #[.slice a len cap, .int .i64 i] w fun e w' => e = .returned (.int .u32 (num B (4 * i) 4)) ∧ w = w' := by
  have hx := num_bd B (4 * i) hb.2.1 4
  have HC : Box (Calls Tryd.prog 101 #[.slice a len cap, .int .i64 (4 * (i : Int)), .int .i64 4] w fun e w' => e = .returned (.tuple #[.int .u64 (num B (4 * i) 4), .int .i64 0]) ∧ w = w') := ⟨get_k a len cap B (4 * i) 4 _ _ w hb (by unfold maxLen; omega) (by omega) (by omega) hi (by simp) rfl⟩
  generalize num B (4 * i) 4 = x at hx HC ⊢
  have h0 : 0 ≤ x := hx.1
  have h1 : x < 4294967296 := hx.2
  clear hx hb
  go_enter Tryd.func99, Tryd.ntmps99
  go_wp2_with (go_at_call 101; refine HC.out.mono ?_; rintro e w' ⟨rfl, rfl⟩)
  go_ret
  exact ⟨rfl, rfl⟩
/-- A key and a nonce in blocks S and T, noughts for the result in R, and in G the words so far. -/
structure Bg (w wr : World) (B S T G : Nat) (K N X : List Int) : Prop where
  key : wr.heap[S]? = some (.cells (u8s K) 23 (0, 0))
  non : wr.heap[T]? = some (.cells (u8s N) 158 (0, 0))
  wds : wr.heap[G]? = some (.cells (fil X 16) 177 (0, 0))
  bel : Below B w wr
theorem Bg.keyB {w wr : World} {B S T G : Nat} {K N X : List Int} (h : Bg w wr B S T G K N X) (hK : Byt K) (hl : K.length = 32) : Bytes wr (some ⟨S, 0, none⟩) 32 K := by
  have := bytes_of_row hK h.key
  rwa [hl] at this
theorem Bg.nonB {w wr : World} {B S T G : Nat} {K N X : List Int} (h : Bg w wr B S T G K N X) (hN : Byt N) (hl : N.length = 12) : Bytes wr (some ⟨T, 0, none⟩) 12 N := by
  have := bytes_of_row hN h.non
  rwa [hl] at this
theorem Bg.step {w wr : World} {B S T G : Nat} {K N X : List Int} (h : Bg w wr B S T G K N X) (hS : S ≠ G) (hT : T ≠ G) (hB : B ≤ G) (hX : X.length < 16) (v : Int) : Bg w (wr.setCell ⟨G, X.length, none⟩ (.int .u32 v)) B S T G K N (X ++ [v]) :=
  ⟨by rw [heap_setCell_other wr ⟨G, X.length, none⟩ S _ hS]; exact h.key, by rw [heap_setCell_other wr ⟨G, X.length, none⟩ T _ hT]; exact h.non,
    by rw [heap_setCell_same wr G X.length _ 177 _ h.wds, fil_set X 16 v hX], below_set h.bel hB _⟩
theorem Bg.cell {w wr : World} {B S T G : Nat} {K N X : List Int} (h : Bg w wr B S T G K N X) (i : Nat) (hi : i < 16) (hX : X.length ≤ 16) : ∃ v, wr.cell? ⟨G, i, none⟩ = some v := by
  obtain ⟨v, hv⟩ := fil_some X 16 i hi hX
  exact ⟨v, by rw [cell_of_row _ _ _ _ _ _ h.wds]; exact hv⟩
theorem Bg.frozen {w wr : World} {B S T G : Nat} {K N X : List Int} (h : Bg w wr B S T G K N X) (i : Nat) : wr.frozen? ⟨G, i, none⟩ = false := frozen_of_row wr G i _ 177 h.wds
theorem four_alloc {w : World} {S : Nat} (hS : w.heap.size = S) (o1 o2 o3 o4 : Obj) : ((((w.alloc o1).alloc o2).alloc o3).alloc o4).heap[S]? = some o1 ∧ ((((w.alloc o1).alloc o2).alloc o3).alloc o4).heap[S + 1]? = some o2 ∧ ((((w.alloc o1).alloc o2).alloc o3).alloc o4).heap[S + 1 + 1]? = some o3 ∧ ((((w.alloc o1).alloc o2).alloc o3).alloc o4).heap[S + 1 + 1 + 1]? = some o4 ∧ Below S w ((((w.alloc o1).alloc o2).alloc o3).alloc o4) := by
  refine ⟨al_old (al_old (al_old (al_at hS))), al_old (al_old (al_at (by simp [hS]))), al_old (al_at (by simp [hS])), al_at (by simp [hS]), ?_⟩
  rw [← hS]
  exact ((((Below.refl _ _).alloc (Nat.le_refl _) _).alloc (by simp) _).alloc (by simp; omega) _).alloc (by simp; omega) _
set_option maxRecDepth 20000 in
set_option maxHeartbeats 1000000 in
theorem begin_any (K N : List Int) (c : Int) (w : World) (hK : Byt K) (hKl : K.length = 32) (hN : Byt N) (hNl : N.length = 12) (hc : W32 c) :
    Calls Tryd.prog 97 #[.agg (u8s K), .int .u32 c, .agg (u8s N)] w fun e w' => e = .returned (.agg (u32s (beg K c N))) ∧ Below w.heap.size w w' := by
  obtain ⟨S, hS⟩ : ∃ S, w.heap.size = S := ⟨_, rfl⟩
  have HS : Hid (w.heap.size = S) := hS
  have A4 := four_alloc hS (.cells (u8s K) 23) (.cells (u8s N) 158) (.cells (fil [] 16) 177) (.cells (fil four 16) 177)
  have H0 : Box (Bg w ((((w.alloc (.cells (u8s K) 23)).alloc (.cells (u8s N) 158)).alloc (.cells (fil [] 16) 177)).alloc (.cells (fil four 16) 177)) S S (S + 1) (S + 1 + 1 + 1) K N (four ++ wds K 0) ∧ ((((w.alloc (.cells (u8s K) 23)).alloc (.cells (u8s N) 158)).alloc (.cells (fil [] 16) 177)).alloc (.cells (fil four 16) 177)).heap[S + 1 + 1]? = some (.cells (fil [] 16) 177)) :=
    ⟨⟨A4.1, A4.2.1, A4.2.2.2.1, A4.2.2.2.2⟩, A4.2.2.1⟩
  have z16 : fil [] 16 = #[.int .u32 0, .int .u32 0, .int .u32 0, .int .u32 0, .int .u32 0, .int .u32 0, .int .u32 0, .int .u32 0, .int .u32 0, .int .u32 0, .int .u32 0, .int .u32 0, .int .u32 0, .int .u32 0, .int .u32 0, .int .u32 0] := rfl
  have f16 : fil four 16 = #[.int .u32 1634760805, .int .u32 857760878, .int .u32 2036477234, .int .u32 1797285236, .int .u32 0, .int .u32 0, .int .u32 0, .int .u32 0, .int .u32 0, .int .u32 0, .int .u32 0, .int .u32 0, .int .u32 0, .int .u32 0, .int .u32 0, .int .u32 0] := rfl
  rw [z16, f16] at H0
  clear A4 hS z16 f16
  go_enter Tryd.func97, Tryd.ntmps97
  go_wp2
  rw [HS.out]
  generalize (((w.alloc (.cells (u8s K) 23)).alloc _).alloc _).alloc _ = x0 at H0 ⊢
  obtain ⟨T, HT⟩ : ∃ T, Box (S + 1 = T) := ⟨_, ⟨rfl⟩⟩
  rw [HT.out] at H0 ⊢
  obtain ⟨R, HR⟩ : ∃ R, Box (T + 1 = R) := ⟨_, ⟨rfl⟩⟩
  rw [HR.out] at H0 ⊢
  obtain ⟨G, HG⟩ : ∃ G, Box (R + 1 = G) := ⟨_, ⟨rfl⟩⟩
  rw [HG.out] at H0 ⊢
  have hST : S ≠ G ∧ T ≠ G ∧ R ≠ G ∧ S ≤ G ∧ S ≤ R := by have := HT.out; have := HR.out; have := HG.out; omega
  obtain ⟨n1, n2, n3, n4, n5⟩ := hST
  have h4 : four.length = 4 := rfl
  clear HT HR HG
  go_loopw [11] (fun i wr => ∃ k : Nat, k ≤ 8 ∧ i = .int .i64 k ∧ Box (Bg w wr S S T G K N (four ++ wds K k) ∧ wr.heap[R]? = some (.cells (fil [] 16) 177))) (fun i _ => 8 - (intOf i).toNat)
  case atStart => exact ⟨0, by omega, rfl, H0⟩
  case round =>
    clear H0
    obtain ⟨k, hk, rfl, HB⟩ := hrel
    by_cases hlt : k < 8
    · obtain ⟨v, hcw⟩ := HB.out.1.cell (4 + k) (by omega) (by simp [length_wds, h4]; omega)
      have f1 := HB.out.1.frozen (4 + k)
      have HN := HB.out.1.step n1 n2 n4 (by simp [length_wds, h4]; omega) (num K (4 * k) 4)
      rw [List.length_append, length_wds, h4, List.append_assoc, show wds K k ++ [num K (4 * k) 4] = wds K (k + 1) from rfl] at HN
      have HM : Box (Bg w (wr.setCell ⟨G, 4 + k, none⟩ (.int .u32 (num K (4 * k) 4))) S S T G K N (four ++ wds K (k + 1)) ∧ (wr.setCell ⟨G, 4 + k, none⟩ (.int .u32 (num K (4 * k) 4))).heap[R]? = some (.cells (fil [] 16) 177)) := ⟨HN, by rw [heap_setCell_other wr ⟨G, 4 + k, none⟩ R _ n3]; exact HB.out.2⟩
      clear HN
      have HC : Box (Calls Tryd.prog 99 #[.slice (some ⟨S, 0, none⟩) 32 32, .int .i64 k] wr fun e w' => e = .returned (.int .u32 (num K (4 * k) 4)) ∧ wr = w') := ⟨read_any _ 32 32 K k wr (HB.out.1.keyB hK hKl) (by omega) (by omega)⟩
      generalize num K (4 * k) 4 = x at HC HM
      go_wp2_with (go_at_call 99; refine HC.out.mono ?_; rintro e w' ⟨rfl, rfl⟩)
      go_roundw
      case rel => exact ⟨k + 1, by omega, by go_num, HM⟩
      case measure => simp [intOf]; omega
    · have HK8 : Box (k = 8) := ⟨by omega⟩
      rw [HK8.out] at HB
      obtain ⟨Y, HY⟩ := named (four ++ wds K 8)
      have hYl : Y.length = 12 := by rw [← HY.out]; simp [length_wds, h4]
      rw [HY.out] at HB
      obtain ⟨v, hcw⟩ := HB.out.1.cell 12 (by omega) (by omega)
      have f1 := HB.out.1.frozen 12
      have HN := HB.out.1.step n1 n2 n4 (by omega) c
      rw [hYl] at HN
      have HM : Box (Bg w (wr.setCell ⟨G, 12, none⟩ (.int .u32 c)) S S T G K N ((Y ++ [c]) ++ wds N 0) ∧ (wr.setCell ⟨G, 12, none⟩ (.int .u32 c)).heap[R]? = some (.cells (fil [] 16) 177)) := ⟨by rw [show wds N 0 = [] from rfl, List.append_nil]; exact HN, by rw [heap_setCell_other wr ⟨G, 12, none⟩ R _ n3]; exact HB.out.2⟩
      clear HN HB
      obtain ⟨Z, HZ⟩ := named (Y ++ [c])
      have hZl : Z.length = 13 := by rw [← HZ.out]; simp [hYl]
      have HE : Box (Z ++ wds N 3 = beg K c N) := ⟨by rw [← HZ.out, ← HY.out]; rfl⟩
      rw [HZ.out] at HM
      clear HZ HY hYl
      go_wp2
      generalize wr.setCell ⟨G, 12, none⟩ (.int .u32 c) = x1 at HM ⊢
      go_loopw [23] (fun i wr => ∃ k : Nat, k ≤ 3 ∧ i = .int .i64 k ∧ Box (Bg w wr S S T G K N (Z ++ wds N k) ∧ wr.heap[R]? = some (.cells (fil [] 16) 177))) (fun i _ => 3 - (intOf i).toNat)
      case atStart => exact ⟨0, by omega, rfl, HM⟩
      case round =>
        clear HM hcw f1
        obtain ⟨k, hk, rfl, HB⟩ := hrel
        by_cases hlt3 : k < 3
        · obtain ⟨v, hcw⟩ := HB.out.1.cell (13 + k) (by omega) (by simp [length_wds, hZl]; omega)
          have f1 := HB.out.1.frozen (13 + k)
          have HN := HB.out.1.step n1 n2 n4 (by simp [length_wds, hZl]; omega) (num N (4 * k) 4)
          rw [List.length_append, length_wds, hZl, List.append_assoc, show wds N k ++ [num N (4 * k) 4] = wds N (k + 1) from rfl] at HN
          have HM : Box (Bg w (wr.setCell ⟨G, 13 + k, none⟩ (.int .u32 (num N (4 * k) 4))) S S T G K N (Z ++ wds N (k + 1)) ∧ (wr.setCell ⟨G, 13 + k, none⟩ (.int .u32 (num N (4 * k) 4))).heap[R]? = some (.cells (fil [] 16) 177)) := ⟨HN, by rw [heap_setCell_other wr ⟨G, 13 + k, none⟩ R _ n3]; exact HB.out.2⟩
          clear HN
          have HC : Box (Calls Tryd.prog 99 #[.slice (some ⟨T, 0, none⟩) 12 12, .int .i64 k] wr fun e w' => e = .returned (.int .u32 (num N (4 * k) 4)) ∧ wr = w') := ⟨read_any _ 12 12 N k wr (HB.out.1.nonB hN hNl) (by omega) (by omega)⟩
          generalize num N (4 * k) 4 = x at HC HM
          go_wp2_with (go_at_call 99; refine HC.out.mono ?_; rintro e w' ⟨rfl, rfl⟩)
          go_roundw
          case rel => exact ⟨k + 1, by omega, by go_num, HM⟩
          case measure => simp [intOf]; omega
        · obtain rfl : k = 3 := by omega
          rw [HE.out] at HB
          obtain ⟨X, HX⟩ := named (beg K c N)
          have hXl : X.length = 16 := by rw [← HX.out]; exact length_beg K c N
          rw [HX.out] at HB
          have hsz : (u32s X).size = 16 := by rw [size_u32s, hXl]
          have hall := all_u32s X
          have HW := HB.out.1.wds
          rw [fil_full X 16 hXl] at HW
          have HF : Box _ := ⟨And.intro HW (And.intro HB.out.2 HB.out.1.bel)⟩
          clear HW HB
          go_wp2_with (first | (refine wpList_load_row rfl 177 _ rfl G rfl 177 (u32s X) (0, 0) _ HF.out.1 Tryd.underlying177 rfl (by rw [hsz]; kernel_rfl) ?_) | (refine wpList_store_row rfl 177 _ _ rfl R (u32s X) rfl rfl 177 (fil [] 16) HF.out.2.1 (by rw [hsz]; kernel_rfl) (by rw [hsz]; rfl) hall ?_))
          (try simp only [Exit.inBlock, Exit.then])
          refine bodyPost_ret (results_cell_row (p := 6) (ty := 177) rfl _ _ R 177 (u32s X) (0, 0) _ rfl (setRow_heap _ _ _ _ _ _ HF.out.2.1) Tryd.underlying177 rfl (by rw [hsz]; kernel_rfl)) rfl ?_
          exact ⟨by rw [HX.out], by rw [HS.out]; exact below_setRow HF.out.2.2 n5 _⟩
end Go.Proofs.YtipdaaajnbjnjaaDoor.Seal
