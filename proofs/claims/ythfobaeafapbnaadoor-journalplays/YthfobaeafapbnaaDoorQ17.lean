/-
 What the Go functions read and begin of package cipher answer, and the reference's at: the words at first. And what follows it.
-/
import Derived.Test.YthfobaeafapbnaaDoorQ16
import Derived.Test.YthfobaeafapbnaaDoorQ01
import Derived.Deep.RegionLaw
set_option linter.unusedVariables false
set_option maxRecDepth 100000
namespace Go.Proofs.YthfobaeafapbnaaDoor.Seal.Plain
end Go.Proofs.YthfobaeafapbnaaDoor.Seal.Plain
namespace Go.Proofs.YthfobaeafapbnaaDoor.Seal
open Go.RowKit Go.Proofs.YthfobaeafapbnaaDoor.Plain Go.Proofs.YthfobaeafapbnaaDoor.Seal.Plain
theorem get_k (a : Option Addr) (len cap : Nat) (L : List Int) (p n : Nat) (pi ni : Int) (w : World) (hb : Bytes w a len L) (hl : len <= maxLen) (hn1 : 1 <= n) (hn2 : n <= 8) (hp : p + n <= len) (h1 : pi = p) (h2 : ni = n) :
  Calls Tryd.prog 96 #[.slice a len cap, .int .i64 pi, .int .i64 ni] w fun e w' => e = .returned (.tuple #[.int .u64 (num L p n), .int .i64 0]) /\ w = w' := by
 subst h1; subst h2; exact get_ok a len cap L p n w hb hl hn1 hn2 hp
theorem rget_k (a : Option Addr) (len cap : Nat) (L : List Int) (p n : Nat) (pi ni : Int) (w : World) (hb : Bytes w a len L) (hl : len <= maxLen) (hn1 : 1 <= n) (hn2 : n <= 8) (hp : p + n <= len) (h1 : pi = p) (h2 : ni = n) :
  Calls Tryd.prog 90 #[.slice a len cap, .int .i64 pi, .int .i64 ni] w fun e w' => e = .returned (.tuple #[.int .u64 (num L p n), .int .i64 0]) /\ w = w' := by
 subst h1; subst h2; exact rget_ok a len cap L p n w hb hl hn1 hn2 hp
set_option maxHeartbeats 400000 in
theorem read_any (a : Option Addr) (len cap : Nat) (B : List Int) (i : Nat) (w : World) (hb : Bytes w a len B) (hl : len <= 1000) (hi : 4 * i + 4 <= len) :
  Calls Tryd.prog 94 #[.slice a len cap, .int .i64 i] w fun e w' => e = .returned (.int .u32 (num B (4 * i) 4)) /\ w = w' := by
 have hx := num_bd B (4 * i) hb.2.1 4
 have HC : Box (Calls Tryd.prog 96 #[.slice a len cap, .int .i64 (4 * (i : Int)), .int .i64 4] w fun e w' => e = .returned (.tuple #[.int .u64 (num B (4 * i) 4), .int .i64 0]) /\ w = w') := ⟨get_k a len cap B (4 * i) 4 _ _ w hb (by unfold maxLen; omega) (by omega) (by omega) hi (by simp) rfl⟩
 generalize num B (4 * i) 4 = x at hx HC ⊢
 have h0 : 0 <= x := hx.1
 have h1 : x < 4294967296 := hx.2
 clear hx hb
 go_enter Tryd.func94, Tryd.ntmps94
 go_wp2_with (go_at_call 96; refine HC.out.mono ?_; rintro e w' ⟨rfl, rfl⟩)
 go_ret
 exact ⟨rfl, rfl⟩
set_option maxHeartbeats 400000 in
theorem at_any (a : Option Addr) (len cap : Nat) (B : List Int) (p : Nat) (w : World) (hb : Bytes w a len B) (hl : len <= 1000) (hi : p + 4 <= len) :
  Calls Tryd.prog 83 #[.slice a len cap, .int .i64 p] w fun e w' => e = .returned (.int .u32 (num B p 4)) /\ w = w' := by
 have hx := num_bd B p hb.2.1 4
 have HC : Box (Calls Tryd.prog 90 #[.slice a len cap, .int .i64 p, .int .i64 4] w fun e w' => e = .returned (.tuple #[.int .u64 (num B p 4), .int .i64 0]) /\ w = w') := ⟨rget_k a len cap B p 4 _ _ w hb (by unfold maxLen; omega) (by omega) (by omega) hi rfl rfl⟩
 generalize num B p 4 = x at hx HC ⊢
 have h0 : 0 <= x := hx.1
 have h1 : x < 4294967296 := hx.2
 clear hx hb
 go_enter Tryd.func83, Tryd.ntmps83
 go_wp2_with (go_at_call 90; refine HC.out.mono ?_; rintro e w' ⟨rfl, rfl⟩)
 go_ret
 exact ⟨rfl, rfl⟩
structure Bg (w wr : World) (B S T G : Nat) (K N X : List Int) : Prop where
 key : wr.heap[S]? = some (.cells (u8s K) 23 (0, 0))
 non : wr.heap[T]? = some (.cells (u8s N) 150 (0, 0))
 wds : wr.heap[G]? = some (.cells (fil X 16) 170 (0, 0))
 bel : Below B w wr
theorem Bg.keyB {w wr : World} {B S T G : Nat} {K N X : List Int} (h : Bg w wr B S T G K N X) (hK : Byt K) (hl : K.length = 32) : Bytes wr (some ⟨S, 0, none⟩) 32 K := by
 have := bytes_of_row hK h.key
 rwa [hl] at this
theorem Bg.nonB {w wr : World} {B S T G : Nat} {K N X : List Int} (h : Bg w wr B S T G K N X) (hN : Byt N) (hl : N.length = 12) : Bytes wr (some ⟨T, 0, none⟩) 12 N := by
 have := bytes_of_row hN h.non
 rwa [hl] at this
theorem Bg.step {w wr : World} {B S T G : Nat} {K N X : List Int} (h : Bg w wr B S T G K N X) (hS : S ≠ G) (hT : T ≠ G) (hB : B <= G) (hX : X.length < 16) (v : Int) : Bg w (wr.setCell ⟨G, X.length, none⟩ (.int .u32 v)) B S T G K N (X ++ [v]) :=
 ⟨by rw [heap_setCell_other wr ⟨G, X.length, none⟩ S _ hS]; exact h.key, by rw [heap_setCell_other wr ⟨G, X.length, none⟩ T _ hT]; exact h.non,
  by rw [heap_setCell_same wr G X.length _ 170 _ h.wds, fil_set X 16 v hX], below_set h.bel hB _⟩
theorem Bg.cell {w wr : World} {B S T G : Nat} {K N X : List Int} (h : Bg w wr B S T G K N X) (i : Nat) (hi : i < 16) (hX : X.length <= 16) : ∃ v, wr.cell? ⟨G, i, none⟩ = some v := by
 obtain ⟨v, hv⟩ := fil_some X 16 i hi hX
 exact ⟨v, by rw [cell_of_row _ _ _ _ _ _ h.wds]; exact hv⟩
theorem Bg.frozen {w wr : World} {B S T G : Nat} {K N X : List Int} (h : Bg w wr B S T G K N X) (i : Nat) : wr.frozen? ⟨G, i, none⟩ = false := frozen_of_row wr G i _ 170 h.wds
theorem four_alloc {w : World} {S : Nat} (hS : w.heap.size = S) (o1 o2 o3 o4 : Obj) : ((((w.alloc o1).alloc o2).alloc o3).alloc o4).heap[S]? = some o1 /\ ((((w.alloc o1).alloc o2).alloc o3).alloc o4).heap[S + 1]? = some o2 /\ ((((w.alloc o1).alloc o2).alloc o3).alloc o4).heap[S + 1 + 1]? = some o3 /\ ((((w.alloc o1).alloc o2).alloc o3).alloc o4).heap[S + 1 + 1 + 1]? = some o4 /\ Below S w ((((w.alloc o1).alloc o2).alloc o3).alloc o4) := by
 refine ⟨al_old (al_old (al_old (al_at hS))), al_old (al_old (al_at (by simp [hS]))), al_old (al_at (by simp [hS])), al_at (by simp [hS]), ?_⟩
 rw [<- hS]
 exact ((((Below.refl _ _).alloc (Nat.le_refl _) _).alloc (by simp) _).alloc (by simp; omega) _).alloc (by simp; omega) _
set_option maxRecDepth 20000 in
set_option maxHeartbeats 1000000 in
theorem begin_any (K N : List Int) (c : Int) (w : World) (hK : Byt K) (hKl : K.length = 32) (hN : Byt N) (hNl : N.length = 12) (hc : W32 c) :
  Calls Tryd.prog 92 #[.agg (u8s K), .int .u32 c, .agg (u8s N)] w fun e w' => e = .returned (.agg (u32s (beg K c N))) /\ Below w.heap.size w w' := by
 obtain ⟨S, hS⟩ : ∃ S, w.heap.size = S := ⟨_, rfl⟩
 have HS : Hid (w.heap.size = S) := hS
 have A4 := four_alloc hS (.cells (u8s K) 23) (.cells (u8s N) 150) (.cells (fil [] 16) 170) (.cells (fil four 16) 170)
 have H0 : Box (Bg w ((((w.alloc (.cells (u8s K) 23)).alloc (.cells (u8s N) 150)).alloc (.cells (fil [] 16) 170)).alloc (.cells (fil four 16) 170)) S S (S + 1) (S + 1 + 1 + 1) K N (four ++ wds K 0) /\ ((((w.alloc (.cells (u8s K) 23)).alloc (.cells (u8s N) 150)).alloc (.cells (fil [] 16) 170)).alloc (.cells (fil four 16) 170)).heap[S + 1 + 1]? = some (.cells (fil [] 16) 170)) :=
  ⟨⟨A4.1, A4.2.1, A4.2.2.2.1, A4.2.2.2.2⟩, A4.2.2.1⟩
 have z16 : fil [] 16 = #[.int .u32 0, .int .u32 0, .int .u32 0, .int .u32 0, .int .u32 0, .int .u32 0, .int .u32 0, .int .u32 0, .int .u32 0, .int .u32 0, .int .u32 0, .int .u32 0, .int .u32 0, .int .u32 0, .int .u32 0, .int .u32 0] := rfl
 have f16 : fil four 16 = #[.int .u32 1634760805, .int .u32 857760878, .int .u32 2036477234, .int .u32 1797285236, .int .u32 0, .int .u32 0, .int .u32 0, .int .u32 0, .int .u32 0, .int .u32 0, .int .u32 0, .int .u32 0, .int .u32 0, .int .u32 0, .int .u32 0, .int .u32 0] := rfl
 rw [z16, f16] at H0
 clear A4 hS z16 f16
 go_enter Tryd.func92, Tryd.ntmps92
 go_wp2
 rw [HS.out]
 generalize (((w.alloc (.cells (u8s K) 23)).alloc _).alloc _).alloc _ = x0 at H0 ⊢
 obtain ⟨T, HT⟩ : ∃ T, Box (S + 1 = T) := ⟨_, ⟨rfl⟩⟩
 rw [HT.out] at H0 ⊢
 obtain ⟨R, HR⟩ : ∃ R, Box (T + 1 = R) := ⟨_, ⟨rfl⟩⟩
 rw [HR.out] at H0 ⊢
 obtain ⟨G, HG⟩ : ∃ G, Box (R + 1 = G) := ⟨_, ⟨rfl⟩⟩
 rw [HG.out] at H0 ⊢
 have hST : S ≠ G /\ T ≠ G /\ R ≠ G /\ S <= G /\ S <= R := by have := HT.out; have := HR.out; have := HG.out; omega
 obtain ⟨n1, n2, n3, n4, n5⟩ := hST
 have h4 : four.length = 4 := rfl
 clear HT HR HG
 go_loopw [11] (fun i wr => ∃ k : Nat, k <= 8 /\ i = .int .i64 k /\ Box (Bg w wr S S T G K N (four ++ wds K k) /\ wr.heap[R]? = some (.cells (fil [] 16) 170))) (fun i _ => 8 - (intOf i).toNat)
 case atStart => exact ⟨0, by omega, rfl, H0⟩
 case round =>
  clear H0
  obtain ⟨k, hk, rfl, HB⟩ := hrel
  by_cases hlt : k < 8
  ·obtain ⟨v, hcw⟩ := HB.out.1.cell (4 + k) (by omega) (by simp [length_wds, h4]; omega)
   have f1 := HB.out.1.frozen (4 + k)
   have HN := HB.out.1.step n1 n2 n4 (by simp [length_wds, h4]; omega) (num K (4 * k) 4)
   rw [List.length_append, length_wds, h4, List.append_assoc, show wds K k ++ [num K (4 * k) 4] = wds K (k + 1) from rfl] at HN
   have HM : Box (Bg w (wr.setCell ⟨G, 4 + k, none⟩ (.int .u32 (num K (4 * k) 4))) S S T G K N (four ++ wds K (k + 1)) /\ (wr.setCell ⟨G, 4 + k, none⟩ (.int .u32 (num K (4 * k) 4))).heap[R]? = some (.cells (fil [] 16) 170)) := ⟨HN, by rw [heap_setCell_other wr ⟨G, 4 + k, none⟩ R _ n3]; exact HB.out.2⟩
   clear HN
   have HC : Box (Calls Tryd.prog 94 #[.slice (some ⟨S, 0, none⟩) 32 32, .int .i64 k] wr fun e w' => e = .returned (.int .u32 (num K (4 * k) 4)) /\ wr = w') := ⟨read_any _ 32 32 K k wr (HB.out.1.keyB hK hKl) (by omega) (by omega)⟩
   generalize num K (4 * k) 4 = x at HC HM
   go_wp2_with (go_at_call 94; refine HC.out.mono ?_; rintro e w' ⟨rfl, rfl⟩)
   go_roundw
   case rel => exact ⟨k + 1, by omega, by go_num, HM⟩
   case measure => simp [intOf]; omega
  ·have HK8 : Box (k = 8) := ⟨by omega⟩
   rw [HK8.out] at HB
   obtain ⟨Y, HY⟩ := named (four ++ wds K 8)
   have hYl : Y.length = 12 := by rw [<- HY.out]; simp [length_wds, h4]
   rw [HY.out] at HB
   obtain ⟨v, hcw⟩ := HB.out.1.cell 12 (by omega) (by omega)
   have f1 := HB.out.1.frozen 12
   have HN := HB.out.1.step n1 n2 n4 (by omega) c
   rw [hYl] at HN
   have HM : Box (Bg w (wr.setCell ⟨G, 12, none⟩ (.int .u32 c)) S S T G K N ((Y ++ [c]) ++ wds N 0) /\ (wr.setCell ⟨G, 12, none⟩ (.int .u32 c)).heap[R]? = some (.cells (fil [] 16) 170)) := ⟨by rw [show wds N 0 = [] from rfl, List.append_nil]; exact HN, by rw [heap_setCell_other wr ⟨G, 12, none⟩ R _ n3]; exact HB.out.2⟩
   clear HN HB
   obtain ⟨Z, HZ⟩ := named (Y ++ [c])
   have hZl : Z.length = 13 := by rw [<- HZ.out]; simp [hYl]
   have HE : Box (Z ++ wds N 3 = beg K c N) := ⟨by rw [<- HZ.out, <- HY.out]; rfl⟩
   rw [HZ.out] at HM
   clear HZ HY hYl
   go_wp2
   generalize wr.setCell ⟨G, 12, none⟩ (.int .u32 c) = x1 at HM ⊢
   go_loopw [23] (fun i wr => ∃ k : Nat, k <= 3 /\ i = .int .i64 k /\ Box (Bg w wr S S T G K N (Z ++ wds N k) /\ wr.heap[R]? = some (.cells (fil [] 16) 170))) (fun i _ => 3 - (intOf i).toNat)
   case atStart => exact ⟨0, by omega, rfl, HM⟩
   case round =>
    clear HM hcw f1
    obtain ⟨k, hk, rfl, HB⟩ := hrel
    by_cases hlt3 : k < 3
    ·obtain ⟨v, hcw⟩ := HB.out.1.cell (13 + k) (by omega) (by simp [length_wds, hZl]; omega)
     have f1 := HB.out.1.frozen (13 + k)
     have HN := HB.out.1.step n1 n2 n4 (by simp [length_wds, hZl]; omega) (num N (4 * k) 4)
     rw [List.length_append, length_wds, hZl, List.append_assoc, show wds N k ++ [num N (4 * k) 4] = wds N (k + 1) from rfl] at HN
     have HM : Box (Bg w (wr.setCell ⟨G, 13 + k, none⟩ (.int .u32 (num N (4 * k) 4))) S S T G K N (Z ++ wds N (k + 1)) /\ (wr.setCell ⟨G, 13 + k, none⟩ (.int .u32 (num N (4 * k) 4))).heap[R]? = some (.cells (fil [] 16) 170)) := ⟨HN, by rw [heap_setCell_other wr ⟨G, 13 + k, none⟩ R _ n3]; exact HB.out.2⟩
     clear HN
     have HC : Box (Calls Tryd.prog 94 #[.slice (some ⟨T, 0, none⟩) 12 12, .int .i64 k] wr fun e w' => e = .returned (.int .u32 (num N (4 * k) 4)) /\ wr = w') := ⟨read_any _ 12 12 N k wr (HB.out.1.nonB hN hNl) (by omega) (by omega)⟩
     generalize num N (4 * k) 4 = x at HC HM
     go_wp2_with (go_at_call 94; refine HC.out.mono ?_; rintro e w' ⟨rfl, rfl⟩)
     go_roundw
     case rel => exact ⟨k + 1, by omega, by go_num, HM⟩
     case measure => simp [intOf]; omega
    ·obtain rfl : k = 3 := by omega
     rw [HE.out] at HB
     obtain ⟨X, HX⟩ := named (beg K c N)
     have hXl : X.length = 16 := by rw [<- HX.out]; exact length_beg K c N
     rw [HX.out] at HB
     have hsz : (u32s X).size = 16 := by rw [size_u32s, hXl]
     have hall := all_u32s X
     have HW := HB.out.1.wds
     rw [fil_full X 16 hXl] at HW
     have HF : Box _ := ⟨And.intro HW (And.intro HB.out.2 HB.out.1.bel)⟩
     clear HW HB
     go_wp2_with (first | (refine wpList_load_row rfl 170 _ rfl G rfl 170 (u32s X) (0, 0) _ HF.out.1 Tryd.underlying170 rfl (by rw [hsz]; kernel_rfl) ?_) | (refine wpList_store_row rfl 170 _ _ rfl R (u32s X) rfl rfl 170 (fil [] 16) HF.out.2.1 (by rw [hsz]; kernel_rfl) (by rw [hsz]; rfl) hall ?_))
     (try simp only [Exit.inBlock, Exit.then])
     refine bodyPost_ret (results_cell_row (p := 6) (ty := 170) rfl _ _ R 170 (u32s X) (0, 0) _ rfl (setRow_heap _ _ _ _ _ _ HF.out.2.1) Tryd.underlying170 rfl (by rw [hsz]; kernel_rfl)) rfl ?_
     exact ⟨by rw [HX.out], by rw [HS.out]; exact below_setRow HF.out.2.2 n5 _⟩
end Go.Proofs.YthfobaeafapbnaaDoor.Seal
namespace Go.Proofs.YthfobaeafapbnaaDoor.Seal.Plain
end Go.Proofs.YthfobaeafapbnaaDoor.Seal.Plain
namespace Go.Proofs.YthfobaeafapbnaaDoor.Seal
open Go.RowKit Go.Proofs.YthfobaeafapbnaaDoor.Plain Go.Proofs.YthfobaeafapbnaaDoor.Seal.Plain
theorem size5 : (Tryd.prog.info? 5).map (·.size) = some 1 := by kernel_rfl
theorem put_k (x' x : Int) (n : Nat) (ni : Int) (w : World) (hx0 : 0 <= x) (hx1 : x <= 18446744073709551615) (h1 : 1 <= n) (h2 : n <= 8) (h : ni = n) (hx : x' = x) :
  Calls Tryd.prog 42 #[.int .u64 x', .int .i64 ni] w fun e w' => ∃ g, e = .returned (.slice (some ⟨g, 0, none⟩) n n) /\ Bytes w' (some ⟨g, 0, none⟩) n (bytesOf x n) /\ Below w.heap.size w w' := by
 subst h
 subst hx
 exact (put_ok _ n w hx0 hx1 h1 h2).mono fun e w' ⟨g, he, ho⟩ => ⟨g, he, ho.bytes (bytesOf_bd _ n), ho.2.2⟩
structure No (w wr : World) (S : Nat) (X : List Int) : Prop where
 res : wr.heap[S]? = some (.cells (fil8 [] 12) 150 (0, 0))
 out : wr.heap[S + 1]? = some (.cells (fil8 X 12).toList.toArray 150 (0, 0))
 bel : Below S w wr
theorem No.on {w wr wx : World} {S : Nat} {X : List Int} (h : No w wr S X) (hb : Below wr.heap.size wr wx) : No w wx S X := by
 have l1 := (Array.getElem?_eq_some_iff.1 h.res).1
 have l2 := (Array.getElem?_eq_some_iff.1 h.out).1
 exact ⟨(hb.block _ l1).trans h.res, (hb.block _ l2).trans h.out, h.bel.trans (hb.mono (by omega))⟩
theorem No.copy {w wr wx : World} {S : Nat} {X : List Int} (h : No w wr S X) (X' Y : List Int) (o : Nat) (ho : X.length = o) (hY : X.length + Y.length <= 12) (hg : wx.heap[S + 1]? = some (.cells (splice (fil8 X 12).toList o (Y.map (Value.int .u8))).toArray 150 (0, 0))) (hb : Below (S + 1) wr wx) : No w wx S (X ++ Y) := by
 subst ho
 exact ⟨(hb.block _ (by omega)).trans h.res, by rw [hg, fil8_splice X Y 12 hY], h.bel.trans (hb.mono (by omega))⟩
theorem no_len (X : List Int) : (fil8 X 12).toList.length = max X.length 12 := by simp [fil8, u8s]; omega
set_option maxRecDepth 20000 in
set_option maxHeartbeats 1000000 in
theorem nonce_any (p v : Int) (w : World) (hp : W32 p) (hv : 0 <= v /\ v <= 18446744073709551615) :
  Calls Tryd.prog 81 #[.int .u32 p, .int .u64 v] w fun e w' => e = .returned (.agg (u8s (non p v))) /\ Below w.heap.size w w' := by
 obtain ⟨hp0, hp1⟩ := hp
 obtain ⟨S, hS⟩ : ∃ S, w.heap.size = S := ⟨_, rfl⟩
 have HS : Hid (w.heap.size = S) := hS
 have I0 : Box (No w ((w.alloc (.cells (fil8 [] 12) 150)).alloc (.cells (fil8 [] 12) 150)) S []) := ⟨al_old (al_at hS), al_at (by simp [hS]), by rw [<- hS]; exact ((Below.refl _ _).alloc (Nat.le_refl _) _).alloc (by simp) _⟩
 have z12 : fil8 [] 12 = #[.int .u8 0, .int .u8 0, .int .u8 0, .int .u8 0, .int .u8 0, .int .u8 0, .int .u8 0, .int .u8 0, .int .u8 0, .int .u8 0, .int .u8 0, .int .u8 0] := rfl
 rw [z12] at I0
 clear hS z12
 go_enter Tryd.func81, Tryd.ntmps81
 go_wp2
 rw [HS.out]
 generalize (w.alloc (.cells _ 150)).alloc _ = x0 at I0 ⊢
 have I0d : Box (No w x0.drew S []) := ⟨I0.out.res, I0.out.out, I0.out.bel.drew⟩
 clear I0
 refine wp_region_any (by kernel_rfl) ?_
 change wpAny _ _ _ _ _ _ _ (World.drew _)
 generalize World.drew x0 = y2 at I0d ⊢
 refine wpAny_take (i := 0) (v := ?_) rfl (by kernel_rfl) (by kernel_rfl) (by kernel_rfl) (fun _ _ _ h => h) (Or.inl ⟨by rfl, ?_⟩) ?_
 rotate_left
 ·intro w'; go_simp <;> with_reducible rfl
 try simp only [Act.put, pC, pD, pE, pF, pG]
 refine wpAny_take (i := 1) (v := ?_) rfl (by kernel_rfl) (by kernel_rfl) (by kernel_rfl) (fun _ _ _ h => h) (Or.inl ⟨by rfl, ?_⟩) ?_
 rotate_left
 ·intro w'; go_simp <;> with_reducible rfl
 try simp only [Act.put, pC, pD, pE, pF, pG, pH]
 refine wpAny_take (i := 2) (v := ?_) rfl (by kernel_rfl) (by kernel_rfl) (by kernel_rfl) (fun _ _ _ h => h) (Or.inl ⟨by rfl, ?_⟩) ?_
 rotate_left
 ·intro w'; go_simp <;> with_reducible rfl
 try simp only [Act.put, pC, pD, pE, pF, pG, pH]
 refine wpAny_ready (rs := [3]) (by kernel_rfl) (by simp) ?_
 refine AllReady.cons rfl (fun K hK => ?_) AllReady.nil
 rw [if_pos (by rfl)]
 go_simp
 refine Calls.mono (put_k _ p 4 _ _ (by omega) (by omega) (by omega) (by omega) rfl (by first | rfl | (rw [IntKind.wrap_u64]; omega))) ?_
 rintro e x1 ⟨g2, rfl, hB2, hb2⟩
 have H2 : Box (No w x1 S [] /\ Bytes x1 (some ⟨g2, 0, none⟩) 4 (bytesOf p 4)) := ⟨(I0d.out).on hb2, hB2⟩
 clear hB2 hb2
 refine hK _ _ ?_
 clear hK K
 try simp only [Act.put, pC, pD, pE, pF, pG, pH]
 refine wpAny_ready (rs := [4]) (by kernel_rfl) (by simp) ?_
 refine AllReady.cons rfl (fun K hK => ?_) AllReady.nil
 refine step_copy_splice rfl (.tmp 6) (.tmp 9) 63 63 rfl 5 Tryd.underlying63 size5 _ _ _ _ _ _ rfl rfl (S + 1) 0 (fil8 [] 12).toList 150 H2.out.1.out ((bytesOf p 4).map (Value.int .u8)) (by rw [List.length_map, length_bytesOf]; rfl) (fun hq => ⟨rfl, H2.out.2.src (by omega)⟩) (by rw [List.length_map, length_bytesOf, no_len]; omega) (ints_oneCell _ _) (S + 1) x1 (Below.refl _ _) (Nat.le_refl _) ?_
 intro x2 hg2 hb2
 have I2 : Box (No w x2 S (bytesOf p 4)) := ⟨H2.out.1.copy ([]) (bytesOf p 4) 0 rfl (by simp [length_bytesOf]) hg2.out hb2⟩
 clear hg2 hb2 H2
 refine hK _ _ ?_
 clear hK K
 try simp only [Act.put, pC, pD, pE, pF, pG, pH]
 refine wpAny_done (by kernel_rfl) ?_ _
 clear I0d
 go_wp2
 have I2d : Box (No w x2.drew S (bytesOf p 4)) := ⟨I2.out.res, I2.out.out, I2.out.bel.drew⟩
 clear I2
 refine wp_region_any (by kernel_rfl) ?_
 change wpAny _ _ _ _ _ _ _ (World.drew _)
 generalize World.drew x2 = y3 at I2d ⊢
 refine wpAny_take (i := 0) (v := ?_) rfl (by kernel_rfl) (by kernel_rfl) (by kernel_rfl) (fun _ _ _ h => h) (Or.inl ⟨by rfl, ?_⟩) ?_
 rotate_left
 ·intro w'; go_simp <;> with_reducible rfl
 try simp only [Act.put, pC, pD, pE, pF, pG]
 refine wpAny_take (i := 1) (v := ?_) rfl (by kernel_rfl) (by kernel_rfl) (by kernel_rfl) (fun _ _ _ h => h) (Or.inl ⟨by rfl, ?_⟩) ?_
 rotate_left
 ·intro w'; go_simp <;> with_reducible rfl
 try simp only [Act.put, pC, pD, pE, pF, pG, pH]
 refine wpAny_ready (rs := [2]) (by kernel_rfl) (by simp) ?_
 refine AllReady.cons rfl (fun K hK => ?_) AllReady.nil
 rw [if_pos (by rfl)]
 go_simp
 refine Calls.mono (put_k _ v 8 _ _ (by omega) (by omega) (by omega) (by omega) rfl (by first | rfl | (rw [IntKind.wrap_u64]; omega))) ?_
 rintro e x3 ⟨g3, rfl, hB3, hb3⟩
 have H3 : Box (No w x3 S (bytesOf p 4) /\ Bytes x3 (some ⟨g3, 0, none⟩) 8 (bytesOf v 8)) := ⟨(I2d.out).on hb3, hB3⟩
 clear hB3 hb3
 refine hK _ _ ?_
 clear hK K
 try simp only [Act.put, pC, pD, pE, pF, pG, pH]
 refine wpAny_ready (rs := [3]) (by kernel_rfl) (by simp) ?_
 refine AllReady.cons rfl (fun K hK => ?_) AllReady.nil
 refine step_copy_splice rfl (.tmp 11) (.tmp 13) 63 63 rfl 5 Tryd.underlying63 size5 _ _ _ _ _ _ rfl rfl (S + 1) 4 (fil8 (bytesOf p 4) 12).toList 150 H3.out.1.out ((bytesOf v 8).map (Value.int .u8)) (by rw [List.length_map, length_bytesOf]; rfl) (fun hq => ⟨rfl, H3.out.2.src (by omega)⟩) (by rw [List.length_map, length_bytesOf, no_len]; omega) (ints_oneCell _ _) (S + 1) x3 (Below.refl _ _) (Nat.le_refl _) ?_
 intro x4 hg3 hb3
 have I3 : Box (No w x4 S (non p v)) := ⟨H3.out.1.copy ((bytesOf p 4)) (bytesOf v 8) 4 (length_bytesOf p 4) (by simp [length_bytesOf]) hg3.out hb3⟩
 clear hg3 hb3 H3
 refine hK _ _ ?_
 clear hK K
 try simp only [Act.put, pC, pD, pE, pF, pG, pH]
 refine wpAny_done (by kernel_rfl) ?_ _
 clear I2d
 obtain ⟨X, HX⟩ := named (non p v)
 have hXl : X.length = 12 := by rw [<- HX.out]; exact length_non p v
 rw [HX.out] at I3
 have hsz : (u8s X).size = 12 := by rw [size_u8s, hXl]
 have hall := all_u8s X
 have HW := I3.out.out
 rw [fil8_full X 12 hXl] at HW
 have HF : Box (x4.heap[S + 1]? = some (.cells (u8s X) 150 (0, 0)) /\ x4.heap[S]? = some (.cells (fil8 [] 12) 150 (0, 0)) /\ Below S w x4) := ⟨HW, I3.out.res, I3.out.bel⟩
 clear HW I3
 go_wp2_with (first | (refine wpList_load_row rfl 150 _ rfl (S + 1) rfl 150 (u8s X) (0, 0) _ HF.out.1 Tryd.underlying150 rfl (by rw [hsz]; kernel_rfl) ?_) | (refine wpList_store_row rfl 150 _ _ rfl S (u8s X) rfl rfl 150 (fil8 [] 12) HF.out.2.1 (by rw [hsz]; kernel_rfl) (by rw [hsz]; rfl) hall ?_))
 (try simp only [Exit.inBlock, Exit.then])
 refine bodyPost_ret (results_cell_row (p := 4) (ty := 150) rfl _ _ S 150 (u8s X) (0, 0) _ rfl (setRow_heap _ _ _ _ _ _ HF.out.2.1) Tryd.underlying150 rfl (by rw [hsz]; kernel_rfl)) rfl ?_
 exact ⟨by rw [HX.out], by rw [HS.out]; exact below_setRow HF.out.2.2 (Nat.le_refl _) _⟩
end Go.Proofs.YthfobaeafapbnaaDoor.Seal
