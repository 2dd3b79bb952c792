/-
 What the Go functions read and begin of package cipher answer, and the reference's at: the words at first. And what follows it.
-/
import Derived.Test.YtjdjbjedfbmgpaaGreatDoorQ13
import Derived.Test.YtjdjbjedfbmgpaaGreatDoorQ01
import Derived.Deep.RegionLaw
set_option linter.unusedVariables false
set_option maxRecDepth 100000
set_option maxRecDepth 100000
namespace Go.Proofs.YtjdjbjedfbmgpaaGreatDoor.Seal.Plain
end Go.Proofs.YtjdjbjedfbmgpaaGreatDoor.Seal.Plain
namespace Go.Proofs.YtjdjbjedfbmgpaaGreatDoor.Seal
open Go.RowKit Go.Proofs.YtjdjbjedfbmgpaaGreatDoor.Plain Go.Proofs.YtjdjbjedfbmgpaaGreatDoor.Seal.Plain
theorem get_k (a : Option Addr) (len cap : Nat) (L : List Int) (p n : Nat) (pi ni : Int) (w : World) (hb : Bytes w a len L) (hl : len <= maxLen) (hn1 : 1 <= n) (hn2 : n <= 8) (hp : p + n <= len) (h1 : pi = p) (h2 : ni = n) :
  Calls Tryz.prog 121 #[.slice a len cap, .int .i64 pi, .int .i64 ni] w fun e w' => e = .returned (.tuple #[.int .u64 (num L p n), .int .i64 0]) /\ w = w' := by
 subst h1; subst h2; exact get_ok a len cap L p n w hb hl hn1 hn2 hp
theorem rget_k (a : Option Addr) (len cap : Nat) (L : List Int) (p n : Nat) (pi ni : Int) (w : World) (hb : Bytes w a len L) (hl : len <= maxLen) (hn1 : 1 <= n) (hn2 : n <= 8) (hp : p + n <= len) (h1 : pi = p) (h2 : ni = n) :
  Calls Tryz.prog 86 #[.slice a len cap, .int .i64 pi, .int .i64 ni] w fun e w' => e = .returned (.tuple #[.int .u64 (num L p n), .int .i64 0]) /\ w = w' := by
 subst h1; subst h2; exact rget_ok a len cap L p n w hb hl hn1 hn2 hp
set_option maxHeartbeats 400000 in
theorem read_any (a : Option Addr) (len cap : Nat) (B : List Int) (i : Nat) (w : World) (hb : Bytes w a len B) (hl : len <= 1000) (hi : 4 * i + 4 <= len) :
  Calls Tryz.prog 139 #[.slice a len cap, .int .i64 i] w fun e w' => e = .returned (.int .u32 (num B (4 * i) 4)) /\ w = w' := by
 have hx := num_bd B (4 * i) hb.2.1 4
 have HC : Box (Calls Tryz.prog 121 #[.slice a len cap, .int .i64 (4 * (i : Int)), .int .i64 4] w fun e w' => e = .returned (.tuple #[.int .u64 (num B (4 * i) 4), .int .i64 0]) /\ w = w') := ⟨get_k a len cap B (4 * i) 4 _ _ w hb (by unfold maxLen; omega) (by omega) (by omega) hi (by simp) rfl⟩
 generalize num B (4 * i) 4 = x at hx HC ⊢
 have h0 : 0 <= x := hx.1
 have h1 : x < 4294967296 := hx.2
 clear hx hb
 go_enter Tryz.func139, Tryz.ntmps139
 go_wp2_with (go_at_call 121; refine HC.out.mono ?_; rintro e w' ⟨rfl, rfl⟩)
 go_ret
 exact ⟨rfl, rfl⟩
set_option maxHeartbeats 400000 in
theorem at_any (a : Option Addr) (len cap : Nat) (B : List Int) (p : Nat) (w : World) (hb : Bytes w a len B) (hl : len <= 1000) (hi : p + 4 <= len) :
  Calls Tryz.prog 117 #[.slice a len cap, .int .i64 p] w fun e w' => e = .returned (.int .u32 (num B p 4)) /\ w = w' := by
 have hx := num_bd B p hb.2.1 4
 have HC : Box (Calls Tryz.prog 86 #[.slice a len cap, .int .i64 p, .int .i64 4] w fun e w' => e = .returned (.tuple #[.int .u64 (num B p 4), .int .i64 0]) /\ w = w') := ⟨rget_k a len cap B p 4 _ _ w hb (by unfold maxLen; omega) (by omega) (by omega) hi rfl rfl⟩
 generalize num B p 4 = x at hx HC ⊢
 have h0 : 0 <= x := hx.1
 have h1 : x < 4294967296 := hx.2
 clear hx hb
 go_enter Tryz.func117, Tryz.ntmps117
 go_wp2_with (go_at_call 86; refine HC.out.mono ?_; rintro e w' ⟨rfl, rfl⟩)
 go_ret
 exact ⟨rfl, rfl⟩
structure Bg (w wr : World) (B S T G : Nat) (K N X : List Int) : Prop where
 key : wr.heap[S]? = some (.cells (u8s K) 23 (0, 0))
 non : wr.heap[T]? = some (.cells (u8s N) 157 (0, 0))
 wds : wr.heap[G]? = some (.cells (fil X 16) 214 (0, 0))
 bel : Below B w wr
theorem Bg.keyB {w wr : World} {B S T G : Nat} {K N X : List Int} (h : Bg w wr B S T G K N X) (hK : Byt K) (hl : K.length = 32) : Bytes wr (some ⟨S, 0, none⟩) 32 K := by
 have := bytes_of_row hK h.key
 rwa [hl] at this
theorem Bg.nonB {w wr : World} {B S T G : Nat} {K N X : List Int} (h : Bg w wr B S T G K N X) (hN : Byt N) (hl : N.length = 12) : Bytes wr (some ⟨T, 0, none⟩) 12 N := by
 have := bytes_of_row hN h.non
 rwa [hl] at this
theorem Bg.step {w wr : World} {B S T G : Nat} {K N X : List Int} (h : Bg w wr B S T G K N X) (hS : S ≠ G) (hT : T ≠ G) (hB : B <= G) (hX : X.length < 16) (v : Int) : Bg w (wr.setCell ⟨G, X.length, none⟩ (.int .u32 v)) B S T G K N (X ++ [v]) :=
 ⟨by rw [heap_setCell_other wr ⟨G, X.length, none⟩ S _ hS]; exact h.key, by rw [heap_setCell_other wr ⟨G, X.length, none⟩ T _ hT]; exact h.non,
  by rw [heap_setCell_same wr G X.length _ 214 _ h.wds, fil_set X 16 v hX], below_set h.bel hB _⟩
theorem Bg.cell {w wr : World} {B S T G : Nat} {K N X : List Int} (h : Bg w wr B S T G K N X) (i : Nat) (hi : i < 16) (hX : X.length <= 16) : ∃ v, wr.cell? ⟨G, i, none⟩ = some v := by
 obtain ⟨v, hv⟩ := fil_some X 16 i hi hX
 exact ⟨v, by rw [cell_of_row _ _ _ _ _ _ h.wds]; exact hv⟩
theorem Bg.frozen {w wr : World} {B S T G : Nat} {K N X : List Int} (h : Bg w wr B S T G K N X) (i : Nat) : wr.frozen? ⟨G, i, none⟩ = false := frozen_of_row wr G i _ 214 h.wds
theorem four_alloc {w : World} {S : Nat} (hS : w.heap.size = S) (o1 o2 o3 o4 : Obj) : ((((w.alloc o1).alloc o2).alloc o3).alloc o4).heap[S]? = some o1 /\ ((((w.alloc o1).alloc o2).alloc o3).alloc o4).heap[S + 1]? = some o2 /\ ((((w.alloc o1).alloc o2).alloc o3).alloc o4).heap[S + 1 + 1]? = some o3 /\ ((((w.alloc o1).alloc o2).alloc o3).alloc o4).heap[S + 1 + 1 + 1]? = some o4 /\ Below S w ((((w.alloc o1).alloc o2).alloc o3).alloc o4) := by
 refine ⟨al_old (al_old (al_old (al_at hS))), al_old (al_old (al_at (by simp [hS]))), al_old (al_at (by simp [hS])), al_at (by simp [hS]), ?_⟩
 rw [<- hS]
 exact ((((Below.refl _ _).alloc (Nat.le_refl _) _).alloc (by simp) _).alloc (by simp; omega) _).alloc (by simp; omega) _
set_option maxRecDepth 20000 in
set_option maxHeartbeats 1000000 in
theorem begin_any (K N : List Int) (c : Int) (w : World) (hK : Byt K) (hKl : K.length = 32) (hN : Byt N) (hNl : N.length = 12) (hc : W32 c) :
  Calls Tryz.prog 137 #[.agg (u8s K), .int .u32 c, .agg (u8s N)] w fun e w' => e = .returned (.agg (u32s (beg K c N))) /\ Below w.heap.size w w' := by
 obtain ⟨S, hS⟩ : ∃ S, w.heap.size = S := ⟨_, rfl⟩
 have HS : Hid (w.heap.size = S) := hS
 have A4 := four_alloc hS (.cells (u8s K) 23) (.cells (u8s N) 157) (.cells (fil [] 16) 214) (.cells (fil four 16) 214)
 have H0 : Box (Bg w ((((w.alloc (.cells (u8s K) 23)).alloc (.cells (u8s N) 157)).alloc (.cells (fil [] 16) 214)).alloc (.cells (fil four 16) 214)) S S (S + 1) (S + 1 + 1 + 1) K N (four ++ wds K 0) /\ ((((w.alloc (.cells (u8s K) 23)).alloc (.cells (u8s N) 157)).alloc (.cells (fil [] 16) 214)).alloc (.cells (fil four 16) 214)).heap[S + 1 + 1]? = some (.cells (fil [] 16) 214)) :=
  ⟨⟨A4.1, A4.2.1, A4.2.2.2.1, A4.2.2.2.2⟩, A4.2.2.1⟩
 have z16 : fil [] 16 = #[.int .u32 0, .int .u32 0, .int .u32 0, .int .u32 0, .int .u32 0, .int .u32 0, .int .u32 0, .int .u32 0, .int .u32 0, .int .u32 0, .int .u32 0, .int .u32 0, .int .u32 0, .int .u32 0, .int .u32 0, .int .u32 0] := rfl
 have f16 : fil four 16 = #[.int .u32 1634760805, .int .u32 857760878, .int .u32 2036477234, .int .u32 1797285236, .int .u32 0, .int .u32 0, .int .u32 0, .int .u32 0, .int .u32 0, .int .u32 0, .int .u32 0, .int .u32 0, .int .u32 0, .int .u32 0, .int .u32 0, .int .u32 0] := rfl
 rw [z16, f16] at H0
 clear A4 hS z16 f16
 go_enter Tryz.func137, Tryz.ntmps137
 go_wp2
 rw [HS.out]
 generalize (((w.alloc (.cells (u8s K) 23)).alloc _).alloc _).alloc _ = x0 at H0 ⊢
 obtain ⟨T, HT⟩ : ∃ T, Box (S + 1 = T) := ⟨_, ⟨rfl⟩⟩
 rw [HT.out] at H0 ⊢
 obtain ⟨R, HR⟩ : ∃ R, Box (T + 1 = R) := ⟨_, ⟨rfl⟩⟩
 rw [HR.out] at H0 ⊢
 obtain ⟨G, HG⟩ : ∃ G, Box (R + 1 = G) := ⟨_, ⟨rfl⟩⟩
 rw [HG.out] at H0 ⊢
 have hST : S ≠ G /\ T ≠ G /\ R ≠ G /\ S <= G /\ S <= R := by have := HT.out; have := HR.out; have := HG.out; omega
 obtain ⟨n1, n2, n3, n4, n5⟩ := hST
 have h4 : four.length = 4 := rfl
 clear HT HR HG
 go_loopw [11] (fun i wr => ∃ k : Nat, k <= 8 /\ i = .int .i64 k /\ Box (Bg w wr S S T G K N (four ++ wds K k) /\ wr.heap[R]? = some (.cells (fil [] 16) 214))) (fun i _ => 8 - (intOf i).toNat)
 case atStart => exact ⟨0, by omega, rfl, H0⟩
 case round =>
  clear H0
  obtain ⟨k, hk, rfl, HB⟩ := hrel
  by_cases hlt : k < 8
  ·obtain ⟨v, hcw⟩ := HB.out.1.cell (4 + k) (by omega) (by simp [length_wds, h4]; omega)
   have f1 := HB.out.1.frozen (4 + k)
   have HN := HB.out.1.step n1 n2 n4 (by simp [length_wds, h4]; omega) (num K (4 * k) 4)
   rw [List.length_append, length_wds, h4, List.append_assoc, show wds K k ++ [num K (4 * k) 4] = wds K (k + 1) from rfl] at HN
   have HM : Box (Bg w (wr.setCell ⟨G, 4 + k, none⟩ (.int .u32 (num K (4 * k) 4))) S S T G K N (four ++ wds K (k + 1)) /\ (wr.setCell ⟨G, 4 + k, none⟩ (.int .u32 (num K (4 * k) 4))).heap[R]? = some (.cells (fil [] 16) 214)) := ⟨HN, by rw [heap_setCell_other wr ⟨G, 4 + k, none⟩ R _ n3]; exact HB.out.2⟩
   clear HN
   have HC : Box (Calls Tryz.prog 139 #[.slice (some ⟨S, 0, none⟩) 32 32, .int .i64 k] wr fun e w' => e = .returned (.int .u32 (num K (4 * k) 4)) /\ wr = w') := ⟨read_any _ 32 32 K k wr (HB.out.1.keyB hK hKl) (by omega) (by omega)⟩
   generalize num K (4 * k) 4 = x at HC HM
   go_wp2_with (go_at_call 139; refine HC.out.mono ?_; rintro e w' ⟨rfl, rfl⟩)
   go_roundw
   case rel => exact ⟨k + 1, by omega, by go_num, HM⟩
   case measure => simp [intOf]; omega
  ·have HK8 : Box (k = 8) := ⟨by omega⟩
   rw [HK8.out] at HB
   obtain ⟨Y, HY⟩ := named (four ++ wds K 8)
   have hYl : Y.length = 12 := by rw [<- HY.out]; simp [length_wds, h4]
   rw [HY.out] at HB
   obtain ⟨v, hcw⟩ := HB.out.1.cell 12 (by omega) (by omega)
   have f1 := HB.out.1.frozen 12
   have HN := HB.out.1.step n1 n2 n4 (by omega) c
   rw [hYl] at HN
   have HM : Box (Bg w (wr.setCell ⟨G, 12, none⟩ (.int .u32 c)) S S T G K N ((Y ++ [c]) ++ wds N 0) /\ (wr.setCell ⟨G, 12, none⟩ (.int .u32 c)).heap[R]? = some (.cells (fil [] 16) 214)) := ⟨by rw [show wds N 0 = [] from rfl, List.append_nil]; exact HN, by rw [heap_setCell_other wr ⟨G, 12, none⟩ R _ n3]; exact HB.out.2⟩
   clear HN HB
   obtain ⟨Z, HZ⟩ := named (Y ++ [c])
   have hZl : Z.length = 13 := by rw [<- HZ.out]; simp [hYl]
   have HE : Box (Z ++ wds N 3 = beg K c N) := ⟨by rw [<- HZ.out, <- HY.out]; rfl⟩
   rw [HZ.out] at HM
   clear HZ HY hYl
   go_wp2
   generalize wr.setCell ⟨G, 12, none⟩ (.int .u32 c) = x1 at HM ⊢
   go_loopw [23] (fun i wr => ∃ k : Nat, k <= 3 /\ i = .int .i64 k /\ Box (Bg w wr S S T G K N (Z ++ wds N k) /\ wr.heap[R]? = some (.cells (fil [] 16) 214))) (fun i _ => 3 - (intOf i).toNat)
   case atStart => exact ⟨0, by omega, rfl, HM⟩
   case round =>
    clear HM hcw f1
    obtain ⟨k, hk, rfl, HB⟩ := hrel
    by_cases hlt3 : k < 3
    ·obtain ⟨v, hcw⟩ := HB.out.1.cell (13 + k) (by omega) (by simp [length_wds, hZl]; omega)
     have f1 := HB.out.1.frozen (13 + k)
     have HN := HB.out.1.step n1 n2 n4 (by simp [length_wds, hZl]; omega) (num N (4 * k) 4)
     rw [List.length_append, length_wds, hZl, List.append_assoc, show wds N k ++ [num N (4 * k) 4] = wds N (k + 1) from rfl] at HN
     have HM : Box (Bg w (wr.setCell ⟨G, 13 + k, none⟩ (.int .u32 (num N (4 * k) 4))) S S T G K N (Z ++ wds N (k + 1)) /\ (wr.setCell ⟨G, 13 + k, none⟩ (.int .u32 (num N (4 * k) 4))).heap[R]? = some (.cells (fil [] 16) 214)) := ⟨HN, by rw [heap_setCell_other wr ⟨G, 13 + k, none⟩ R _ n3]; exact HB.out.2⟩
     clear HN
     have HC : Box (Calls Tryz.prog 139 #[.slice (some ⟨T, 0, none⟩) 12 12, .int .i64 k] wr fun e w' => e = .returned (.int .u32 (num N (4 * k) 4)) /\ wr = w') := ⟨read_any _ 12 12 N k wr (HB.out.1.nonB hN hNl) (by omega) (by omega)⟩
     generalize num N (4 * k) 4 = x at HC HM
     go_wp2_with (go_at_call 139; refine HC.out.mono ?_; rintro e w' ⟨rfl, rfl⟩)
     go_roundw
     case rel => exact ⟨k + 1, by omega, by go_num, HM⟩
     case measure => simp [intOf]; omega
    ·obtain rfl : k = 3 := by omega
     rw [HE.out] at HB
     obtain ⟨X, HX⟩ := named (beg K c N)
     have hXl : X.length = 16 := by rw [<- HX.out]; exact length_beg K c N
     rw [HX.out] at HB
     have hsz : (u32s X).size = 16 := by rw [size_u32s, hXl]
     have hall := all_u32s X
     have HW := HB.out.1.wds
     rw [fil_full X 16 hXl] at HW
     have HF : Box _ := ⟨And.intro HW (And.intro HB.out.2 HB.out.1.bel)⟩
     clear HW HB
     go_wp2_with (first | (refine wpList_load_row rfl 214 _ rfl G rfl 214 (u32s X) (0, 0) _ HF.out.1 Tryz.underlying214 rfl (by rw [hsz]; kernel_rfl) ?_) | (refine wpList_store_row rfl 214 _ _ rfl R (u32s X) rfl rfl 214 (fil [] 16) HF.out.2.1 (by rw [hsz]; kernel_rfl) (by rw [hsz]; rfl) hall ?_))
     (try simp only [Exit.inBlock, Exit.then])
     refine bodyPost_ret (results_cell_row (p := 6) (ty := 214) rfl _ _ R 214 (u32s X) (0, 0) _ rfl (setRow_heap _ _ _ _ _ _ HF.out.2.1) Tryz.underlying214 rfl (by rw [hsz]; kernel_rfl)) rfl ?_
     exact ⟨by rw [HX.out], by rw [HS.out]; exact below_setRow HF.out.2.2 n5 _⟩
end Go.Proofs.YtjdjbjedfbmgpaaGreatDoor.Seal
namespace Go.Proofs.YtjdjbjedfbmgpaaGreatDoor.Seal.Plain
end Go.Proofs.YtjdjbjedfbmgpaaGreatDoor.Seal.Plain
namespace Go.Proofs.YtjdjbjedfbmgpaaGreatDoor.Seal
open Go.RowKit Go.Proofs.YtjdjbjedfbmgpaaGreatDoor.Plain Go.Proofs.YtjdjbjedfbmgpaaGreatDoor.Seal.Plain
theorem size5 : (Tryz.prog.info? 5).map (·.size) = some 1 := by kernel_rfl
theorem put_k (x' x : Int) (n : Nat) (ni : Int) (w : World) (hx0 : 0 <= x) (hx1 : x <= 18446744073709551615) (h1 : 1 <= n) (h2 : n <= 8) (h : ni = n) (hx : x' = x) :
  Calls Tryz.prog 63 #[.int .u64 x', .int .i64 ni] w fun e w' => ∃ g, e = .returned (.slice (some ⟨g, 0, none⟩) n n) /\ Bytes w' (some ⟨g, 0, none⟩) n (bytesOf x n) /\ Below w.heap.size w w' := by
 subst h
 subst hx
 exact (put_ok _ n w hx0 hx1 h1 h2).mono fun e w' ⟨g, he, ho⟩ => ⟨g, he, ho.bytes (bytesOf_bd _ n), ho.2.2⟩
structure No (w wr : World) (S : Nat) (X : List Int) : Prop where
 res : wr.heap[S]? = some (.cells (fil8 [] 12) 157 (0, 0))
 out : wr.heap[S + 1]? = some (.cells (fil8 X 12).toList.toArray 157 (0, 0))
 bel : Below S w wr
theorem No.on {w wr wx : World} {S : Nat} {X : List Int} (h : No w wr S X) (hb : Below wr.heap.size wr wx) : No w wx S X := by
 have l1 := (Array.getElem?_eq_some_iff.1 h.res).1
 have l2 := (Array.getElem?_eq_some_iff.1 h.out).1
 exact ⟨(hb.block _ l1).trans h.res, (hb.block _ l2).trans h.out, h.bel.trans (hb.mono (by omega))⟩
theorem No.copy {w wr wx : World} {S : Nat} {X : List Int} (h : No w wr S X) (X' Y : List Int) (o : Nat) (ho : X.length = o) (hY : X.length + Y.length <= 12) (hg : wx.heap[S + 1]? = some (.cells (splice (fil8 X 12).toList o (Y.map (Value.int .u8))).toArray 157 (0, 0))) (hb : Below (S + 1) wr wx) : No w wx S (X ++ Y) := by
 subst ho
 exact ⟨(hb.block _ (by omega)).trans h.res, by rw [hg, fil8_splice X Y 12 hY], h.bel.trans (hb.mono (by omega))⟩
theorem no_len (X : List Int) : (fil8 X 12).toList.length = max X.length 12 := by simp [fil8, u8s]; omega
set_option maxRecDepth 20000 in
set_option maxHeartbeats 1000000 in
theorem nonce_any (p v : Int) (w : World) (hp : W32 p) (hv : 0 <= v /\ v <= 18446744073709551615) :
  Calls Tryz.prog 116 #[.int .u32 p, .int .u64 v] w fun e w' => e = .returned (.agg (u8s (non p v))) /\ Below w.heap.size w w' := by
 obtain ⟨hp0, hp1⟩ := hp
 obtain ⟨S, hS⟩ : ∃ S, w.heap.size = S := ⟨_, rfl⟩
 have HS : Hid (w.heap.size = S) := hS
 have I0 : Box (No w ((w.alloc (.cells (fil8 [] 12) 157)).alloc (.cells (fil8 [] 12) 157)) S []) := ⟨al_old (al_at hS), al_at (by simp [hS]), by rw [<- hS]; exact ((Below.refl _ _).alloc (Nat.le_refl _) _).alloc (by simp) _⟩
 have z12 : fil8 [] 12 = #[.int .u8 0, .int .u8 0, .int .u8 0, .int .u8 0, .int .u8 0, .int .u8 0, .int .u8 0, .int .u8 0, .int .u8 0, .int .u8 0, .int .u8 0, .int .u8 0] := rfl
 rw [z12] at I0
 clear hS z12
 go_enter Tryz.func116, Tryz.ntmps116
 go_wp2
 rw [HS.out]
 generalize (w.alloc (.cells _ 157)).alloc _ = x0 at I0 ⊢
 have I0d : Box (No w x0.drew S []) := ⟨I0.out.res, I0.out.out, I0.out.bel.drew⟩
 clear I0
 refine wp_region_any (by kernel_rfl) ?_
 change wpAny _ _ _ _ _ _ _ (World.drew _)
 generalize World.drew x0 = y2 at I0d ⊢
 refine wpAny_take (i := 0) (v := ?_) rfl (by kernel_rfl) (by kernel_rfl) (by kernel_rfl) (fun _ _ _ h => h) (Or.inl ⟨by rfl, ?_⟩) ?_
 rotate_left
 ·intro w'; go_simp <;> with_reducible rfl
 try simp only [Act.put, pC, pD, pE, pF, pG]
 refine wpAny_take (i := 1) (v := ?_) rfl (by kernel_rfl) (by kernel_rfl) (by kernel_rfl) (fun _ _ _ h => h) (Or.inl ⟨by rfl, ?_⟩) ?_
 rotate_left
 ·intro w'; go_simp <;> with_reducible rfl
 try simp only [Act.put, pC, pD, pE, pF, pG, pH]
 refine wpAny_take (i := 2) (v := ?_) rfl (by kernel_rfl) (by kernel_rfl) (by kernel_rfl) (fun _ _ _ h => h) (Or.inl ⟨by rfl, ?_⟩) ?_
 rotate_left
 ·intro w'; go_simp <;> with_reducible rfl
 try simp only [Act.put, pC, pD, pE, pF, pG, pH]
 refine wpAny_ready (rs := [3]) (by kernel_rfl) (by simp) ?_
 refine AllReady.cons rfl (fun K hK => ?_) AllReady.nil
 rw [if_pos (by rfl)]
 go_simp
 refine Calls.mono (put_k _ p 4 _ _ (by omega) (by omega) (by omega) (by omega) rfl (by first | rfl | (rw [IntKind.wrap_u64]; omega))) ?_
 rintro e x1 ⟨g2, rfl, hB2, hb2⟩
 have H2 : Box (No w x1 S [] /\ Bytes x1 (some ⟨g2, 0, none⟩) 4 (bytesOf p 4)) := ⟨(I0d.out).on hb2, hB2⟩
 clear hB2 hb2
 refine hK _ _ ?_
 clear hK K
 try simp only [Act.put, pC, pD, pE, pF, pG, pH]
 refine wpAny_ready (rs := [4]) (by kernel_rfl) (by simp) ?_
 refine AllReady.cons rfl (fun K hK => ?_) AllReady.nil
 refine step_copy_splice rfl (.tmp 6) (.tmp 9) 57 57 rfl 5 Tryz.underlying57 size5 _ _ _ _ _ _ rfl rfl (S + 1) 0 (fil8 [] 12).toList 157 H2.out.1.out ((bytesOf p 4).map (Value.int .u8)) (by rw [List.length_map, length_bytesOf]; rfl) (fun hq => ⟨rfl, H2.out.2.src (by omega)⟩) (by rw [List.length_map, length_bytesOf, no_len]; omega) (ints_oneCell _ _) (S + 1) x1 (Below.refl _ _) (Nat.le_refl _) ?_
 intro x2 hg2 hb2
 have I2 : Box (No w x2 S (bytesOf p 4)) := ⟨H2.out.1.copy ([]) (bytesOf p 4) 0 rfl (by simp [length_bytesOf]) hg2.out hb2⟩
 clear hg2 hb2 H2
 refine hK _ _ ?_
 clear hK K
 try simp only [Act.put, pC, pD, pE, pF, pG, pH]
 refine wpAny_done (by kernel_rfl) ?_ _
 clear I0d
 go_wp2
 have I2d : Box (No w x2.drew S (bytesOf p 4)) := ⟨I2.out.res, I2.out.out, I2.out.bel.drew⟩
 clear I2
 refine wp_region_any (by kernel_rfl) ?_
 change wpAny _ _ _ _ _ _ _ (World.drew _)
 generalize World.drew x2 = y3 at I2d ⊢
 refine wpAny_take (i := 0) (v := ?_) rfl (by kernel_rfl) (by kernel_rfl) (by kernel_rfl) (fun _ _ _ h => h) (Or.inl ⟨by rfl, ?_⟩) ?_
 rotate_left
 ·intro w'; go_simp <;> with_reducible rfl
 try simp only [Act.put, pC, pD, pE, pF, pG]
 refine wpAny_take (i := 1) (v := ?_) rfl (by kernel_rfl) (by kernel_rfl) (by kernel_rfl) (fun _ _ _ h => h) (Or.inl ⟨by rfl, ?_⟩) ?_
 rotate_left
 ·intro w'; go_simp <;> with_reducible rfl
 try simp only [Act.put, pC, pD, pE, pF, pG, pH]
 refine wpAny_ready (rs := [2]) (by kernel_rfl) (by simp) ?_
 refine AllReady.cons rfl (fun K hK => ?_) AllReady.nil
 rw [if_pos (by rfl)]
 go_simp
 refine Calls.mono (put_k _ v 8 _ _ (by omega) (by omega) (by omega) (by omega) rfl (by first | rfl | (rw [IntKind.wrap_u64]; omega))) ?_
 rintro e x3 ⟨g3, rfl, hB3, hb3⟩
 have H3 : Box (No w x3 S (bytesOf p 4) /\ Bytes x3 (some ⟨g3, 0, none⟩) 8 (bytesOf v 8)) := ⟨(I2d.out).on hb3, hB3⟩
 clear hB3 hb3
 refine hK _ _ ?_
 clear hK K
 try simp only [Act.put, pC, pD, pE, pF, pG, pH]
 refine wpAny_ready (rs := [3]) (by kernel_rfl) (by simp) ?_
 refine AllReady.cons rfl (fun K hK => ?_) AllReady.nil
 refine step_copy_splice rfl (.tmp 11) (.tmp 13) 57 57 rfl 5 Tryz.underlying57 size5 _ _ _ _ _ _ rfl rfl (S + 1) 4 (fil8 (bytesOf p 4) 12).toList 157 H3.out.1.out ((bytesOf v 8).map (Value.int .u8)) (by rw [List.length_map, length_bytesOf]; rfl) (fun hq => ⟨rfl, H3.out.2.src (by omega)⟩) (by rw [List.length_map, length_bytesOf, no_len]; omega) (ints_oneCell _ _) (S + 1) x3 (Below.refl _ _) (Nat.le_refl _) ?_
 intro x4 hg3 hb3
 have I3 : Box (No w x4 S (non p v)) := ⟨H3.out.1.copy ((bytesOf p 4)) (bytesOf v 8) 4 (length_bytesOf p 4) (by simp [length_bytesOf]) hg3.out hb3⟩
 clear hg3 hb3 H3
 refine hK _ _ ?_
 clear hK K
 try simp only [Act.put, pC, pD, pE, pF, pG, pH]
 refine wpAny_done (by kernel_rfl) ?_ _
 clear I2d
 obtain ⟨X, HX⟩ := named (non p v)
 have hXl : X.length = 12 := by rw [<- HX.out]; exact length_non p v
 rw [HX.out] at I3
 have hsz : (u8s X).size = 12 := by rw [size_u8s, hXl]
 have hall := all_u8s X
 have HW := I3.out.out
 rw [fil8_full X 12 hXl] at HW
 have HF : Box (x4.heap[S + 1]? = some (.cells (u8s X) 157 (0, 0)) /\ x4.heap[S]? = some (.cells (fil8 [] 12) 157 (0, 0)) /\ Below S w x4) := ⟨HW, I3.out.res, I3.out.bel⟩
 clear HW I3
 go_wp2_with (first | (refine wpList_load_row rfl 157 _ rfl (S + 1) rfl 157 (u8s X) (0, 0) _ HF.out.1 Tryz.underlying157 rfl (by rw [hsz]; kernel_rfl) ?_) | (refine wpList_store_row rfl 157 _ _ rfl S (u8s X) rfl rfl 157 (fil8 [] 12) HF.out.2.1 (by rw [hsz]; kernel_rfl) (by rw [hsz]; rfl) hall ?_))
 (try simp only [Exit.inBlock, Exit.then])
 refine bodyPost_ret (results_cell_row (p := 4) (ty := 157) rfl _ _ S 157 (u8s X) (0, 0) _ rfl (setRow_heap _ _ _ _ _ _ HF.out.2.1) Tryz.underlying157 rfl (by rw [hsz]; kernel_rfl)) rfl ?_
 exact ⟨by rw [HX.out], by rw [HS.out]; exact below_setRow HF.out.2.2 (Nat.le_refl _) _⟩
end Go.Proofs.YtjdjbjedfbmgpaaGreatDoor.Seal
namespace Go.Proofs.YtjdjbjedfbmgpaaGreatDoor.Seal.Plain
end Go.Proofs.YtjdjbjedfbmgpaaGreatDoor.Seal.Plain
namespace Go.Proofs.YtjdjbjedfbmgpaaGreatDoor.Seal
open Go.RowKit Go.Proofs.YtjdjbjedfbmgpaaGreatDoor.Plain Go.Proofs.YtjdjbjedfbmgpaaGreatDoor.Seal.Plain
theorem wpList_new16 {ops : Array Oper} {rest : List Oper} {o : Oper} {a : Act} {v : World} {Q : Exit -> Act -> World -> Prop} (w : World) (X : List Int) (hX : X.length = 16) (old : Array Value) (hold : old.size = 16) (hgd : o.guard = none) (x y : Operand) (ho : o.op = .store 214 x y)
  (hx : a.eval x = .pointer (some ⟨w.heap.size, 0, none⟩)) (hy : a.eval y = .agg (u32s X)) (hv : v = w.alloc (.cells old 214))
  (h : ∀ z, z.heap[w.heap.size]? = some (.cells (u32s X) 214 (0, 0)) -> Below w.heap.size w z -> wpList Tryz.prog ops Q rest (a.put o.dst undef) z) : wpList Tryz.prog ops Q (o :: rest) a v := by
 subst hv
 have hs : (u32s X).size = 16 := by rw [size_u32s, hX]
 exact wpList_store_row hgd 214 x y ho w.heap.size (u32s X) hx hy 214 old (al_at rfl) (by rw [hs]; kernel_rfl) (by rw [hs]; exact hold) (all_u32s X)
  (h _ (setRow_heap _ _ _ _ _ _ (al_at rfl)) (below_setRow ((Below.refl _ _).alloc (Nat.le_refl _) _) (Nat.le_refl _) _))
theorem wpList_see16 {ops : Array Oper} {rest : List Oper} {o : Oper} {a : Act} {w : World} {Q : Exit -> Act -> World -> Prop} (g : Nat) (X : List Int) (hX : X.length = 16) (hg : w.heap[g]? = some (.cells (u32s X) 214 (0, 0))) (hgd : o.guard = none) (x : Operand) (ho : o.op = .load 214 x)
  (hx : a.eval x = .pointer (some ⟨g, 0, none⟩)) (h : wpList Tryz.prog ops Q rest (a.put o.dst (.agg (u32s X))) w) : wpList Tryz.prog ops Q (o :: rest) a w :=
 wpList_load_row hgd 214 x ho g hx 214 (u32s X) (0, 0) _ hg Tryz.underlying214 rfl (by rw [size_u32s, hX]; kernel_rfl) h
theorem wpList_seeKey {ops : Array Oper} {rest : List Oper} {o : Oper} {a : Act} {w : World} {Q : Exit -> Act -> World -> Prop} (g : Nat) (X : List Int) (hX : X.length = 32) (hg : w.heap[g]? = some (.cells (u8s X) 23 (0, 0))) (hgd : o.guard = none) (x : Operand) (ho : o.op = .load 23 x)
  (hx : a.eval x = .pointer (some ⟨g, 0, none⟩)) (h : wpList Tryz.prog ops Q rest (a.put o.dst (.agg (u8s X))) w) : wpList Tryz.prog ops Q (o :: rest) a w :=
 wpList_load_row hgd 23 x ho g hx 23 (u8s X) (0, 0) _ hg Tryz.underlying23 rfl (by rw [size_u8s, hX]; kernel_rfl) h
theorem wpList_seeNon {ops : Array Oper} {rest : List Oper} {o : Oper} {a : Act} {w : World} {Q : Exit -> Act -> World -> Prop} (g : Nat) (X : List Int) (hX : X.length = 12) (hg : w.heap[g]? = some (.cells (u8s X) 157 (0, 0))) (hgd : o.guard = none) (x : Operand) (ho : o.op = .load 157 x)
  (hx : a.eval x = .pointer (some ⟨g, 0, none⟩)) (h : wpList Tryz.prog ops Q rest (a.put o.dst (.agg (u8s X))) w) : wpList Tryz.prog ops Q (o :: rest) a w :=
 wpList_load_row hgd 157 x ho g hx 157 (u8s X) (0, 0) _ hg Tryz.underlying157 rfl (by rw [size_u8s, hX]; kernel_rfl) h
structure Kb (w wr : World) (S : Nat) (K N : List Int) : Prop where
 key : wr.heap[S]? = some (.cells (u8s K) 23 (0, 0))
 non : wr.heap[S + 1]? = some (.cells (u8s N) 157 (0, 0))
 res : wr.heap[S + 1 + 1]? = some (.cells (fil8 [] 64) 180 (0, 0))
 bel : Below S w wr
theorem Kb.on {w wr wx : World} {S : Nat} {K N : List Int} (h : Kb w wr S K N) (hb : Below wr.heap.size wr wx) : Kb w wx S K N := by
 have l1 := (Array.getElem?_eq_some_iff.1 h.key).1
 have l2 := (Array.getElem?_eq_some_iff.1 h.non).1
 have l3 := (Array.getElem?_eq_some_iff.1 h.res).1
 exact ⟨(hb.block _ l1).trans h.key, (hb.block _ l2).trans h.non, (hb.block _ l3).trans h.res, h.bel.trans (hb.mono (by omega))⟩
theorem three_alloc {w : World} {S : Nat} (hS : w.heap.size = S) (o1 o2 o3 : Obj) : (((w.alloc o1).alloc o2).alloc o3).heap[S]? = some o1 /\ (((w.alloc o1).alloc o2).alloc o3).heap[S + 1]? = some o2 /\ (((w.alloc o1).alloc o2).alloc o3).heap[S + 1 + 1]? = some o3 /\ Below S w (((w.alloc o1).alloc o2).alloc o3) := by
 refine ⟨al_old (al_old (al_at hS)), al_old (al_at (by simp [hS])), al_at (by simp [hS]), ?_⟩
 rw [<- hS]
 exact (((Below.refl _ _).alloc (Nat.le_refl _) _).alloc (by simp) _).alloc (by simp; omega) _
structure Lk (w wr : World) (S G1 G3 : Nat) (B X : List Int) : Prop where
 res : wr.heap[S + 1 + 1]? = some (.cells (fil8 [] 64) 180 (0, 0))
 wds : wr.heap[G1]? = some (.cells (u32s B) 214 (0, 0))
 out : wr.heap[G3]? = some (.cells (fil8 X 64).toList.toArray 180 (0, 0))
 bel : Below S w wr
theorem Lk.on {w wr wx : World} {S G1 G3 : Nat} {B X : List Int} (h : Lk w wr S G1 G3 B X) (hb : Below wr.heap.size wr wx) : Lk w wx S G1 G3 B X := by
 have l1 := (Array.getElem?_eq_some_iff.1 h.res).1
 have l2 := (Array.getElem?_eq_some_iff.1 h.wds).1
 have l3 := (Array.getElem?_eq_some_iff.1 h.out).1
 exact ⟨(hb.block _ l1).trans h.res, (hb.block _ l2).trans h.wds, (hb.block _ l3).trans h.out, h.bel.trans (hb.mono (by omega))⟩
theorem Lk.copy {w wr wx : World} {S G1 G3 : Nat} {B X : List Int} (h : Lk w wr S G1 G3 B X) (n1 : S + 1 + 1 < G3) (n2 : G1 < G3) (n3 : S <= G3) (Y : List Int) (o : Nat) (ho : X.length = o) (hY : X.length + Y.length <= 64) (hg : wx.heap[G3]? = some (.cells (splice (fil8 X 64).toList o (Y.map (Value.int .u8))).toArray 180 (0, 0))) (hb : Below G3 wr wx) : Lk w wx S G1 G3 B (X ++ Y) := by
 subst ho
 exact ⟨(hb.block _ n1).trans h.res, (hb.block _ n2).trans h.wds, by rw [hg, fil8_splice X Y 64 hY], h.bel.trans (hb.mono (by omega))⟩
theorem index42 (X : List Int) (hX : X.length = 16) (k : Nat) (hk : k < 16) (w : World) : (Instr.index 214 (.agg (u32s X)) (.int .i64 k)).run Tryz.prog w = .ok (.int .u32 (X.getD k 0)) w :=
 run_index_row Tryz.underlying214 Tryz.underlying76 rfl (by kernel_rfl) k hk (by simp [u32s, hX, hk]) w
theorem slice27 (G i : Nat) (h : i < 16) (x : World) : (Instr.sliceAt 180 (.pointer (some ⟨G, 0, none⟩)) (some (.int .i64 (4 * (i : Int)))) none none).run Tryz.prog x = .ok (.slice (some ⟨G, 4 * i, none⟩) (64 - 4 * i) (64 - 4 * i)) x := by
 have hlen : Tryz.prog.arrayLen 180 = 64 := by kernel_rfl
 have e : (4 * (i : Int)) = ((4 * i : Nat) : Int) := by simp
 rw [e, run_sliceAt_array_l (P := Tryz.prog) x 180 ⟨G, 0, none⟩ (by kernel_rfl) .i64 ((4 * i : Nat) : Int) (by omega) (by rw [hlen]; omega), hlen]
 have hs : (sizeOf (Tryz.prog.elem 180)).run Tryz.prog x = .ok 1 x := by kernel_rfl
 rw [hs, Result.andThen_ok, slicedAt, if_neg (by omega), Addr.add_mid]
 simp
 omega
theorem z64e : fil8 [] 64 = #[.int .u8 0, .int .u8 0, .int .u8 0, .int .u8 0, .int .u8 0, .int .u8 0, .int .u8 0, .int .u8 0, .int .u8 0, .int .u8 0, .int .u8 0, .int .u8 0, .int .u8 0, .int .u8 0, .int .u8 0, .int .u8 0, .int .u8 0, .int .u8 0, .int .u8 0, .int .u8 0, .int .u8 0, .int .u8 0, .int .u8 0, .int .u8 0, .int .u8 0, .int .u8 0, .int .u8 0, .int .u8 0, .int .u8 0, .int .u8 0, .int .u8 0, .int .u8 0, .int .u8 0, .int .u8 0, .int .u8 0, .int .u8 0, .int .u8 0, .int .u8 0, .int .u8 0, .int .u8 0, .int .u8 0, .int .u8 0, .int .u8 0, .int .u8 0, .int .u8 0, .int .u8 0, .int .u8 0, .int .u8 0, .int .u8 0, .int .u8 0, .int .u8 0, .int .u8 0, .int .u8 0, .int .u8 0, .int .u8 0, .int .u8 0, .int .u8 0, .int .u8 0, .int .u8 0, .int .u8 0, .int .u8 0, .int .u8 0, .int .u8 0, .int .u8 0] := rfl
set_option maxRecDepth 20000 in
set_option maxHeartbeats 2000000 in
theorem block_any (K N : List Int) (c : Int) (w : World) (hK : Byt K) (hKl : K.length = 32) (hN : Byt N) (hNl : N.length = 12) (hc : W32 c) (hT : Tab w) :
  Calls Tryz.prog 131 #[.agg (u8s K), .int .u32 c, .agg (u8s N)] w fun e w' => e = .returned (.agg (u8s (blk K c N))) /\ Below w.heap.size w w' := by
 obtain ⟨S, hS⟩ : ∃ S, w.heap.size = S := ⟨_, rfl⟩
 have HS : Hid (w.heap.size = S) := hS
 have A3 := three_alloc hS (.cells (u8s K) 23) (.cells (u8s N) 157) (.cells (fil8 [] 64) 180)
 have K0 : Box (Kb w (((w.alloc (.cells (u8s K) 23)).alloc (.cells (u8s N) 157)).alloc (.cells (fil8 [] 64) 180)) S K N) := ⟨A3.1, A3.2.1, A3.2.2.1, A3.2.2.2⟩
 have z64 := z64e
 rw [z64] at K0
 have HT : Box (∀ x, Below S w x -> Tab x) := ⟨fun x hx => hT.below (by rw [hS]; exact hx)⟩
 obtain ⟨B, EB⟩ := named (beg K c N)
 have hBl : B.length = 16 := by rw [<- EB.out]; exact length_beg K c N
 have hBw : Wrd B := by rw [<- EB.out]; exact wrd_beg K c N hK hc hN
 obtain ⟨M, EM⟩ := named (rn B 10)
 have hMl : M.length = 16 := by rw [<- EM.out, length_rn, hBl]
 have hMw : Wrd M := by rw [<- EM.out]; exact wrd_rn B 10 hBw
 have HE : Box (blk K c N = cb M B 16) := ⟨by rw [blk, EB.out, EM.out]⟩
 have HBg : Box (∀ x, Calls Tryz.prog 137 #[.agg (u8s K), .int .u32 c, .agg (u8s N)] x fun e w' => e = .returned (.agg (u32s B)) /\ Below x.heap.size x w') := ⟨fun x => by rw [<- EB.out]; exact begin_any K N c x hK hKl hN hNl hc⟩
 have HMx : Box (∀ x, Tab x -> Calls Tryz.prog 138 #[.agg (u32s B)] x fun e w' => e = .returned (.agg (u32s M)) /\ Below x.heap.size x w') := ⟨fun x hx => by rw [<- EM.out]; exact mixed_any B x hBl hBw hx⟩
 clear hS z64 A3 hT EB EM hK hN hc
 go_enter Tryz.func131, Tryz.ntmps131
 go_upto_region 1 with fail
 rw [HS.out]
 generalize ((w.alloc (.cells (u8s K) 23)).alloc _).alloc _ = x0 at K0 ⊢
 go_wp2_with (first
  | (refine wpList_see16 w2.heap.size M hMl (al_old H4.out.2.2.1) rfl (.tmp 8) rfl rfl ?_)
  | (refine wpList_new16 w2 M hMl ?old ?hold rfl (.tmp 8) (.tmp 17) rfl rfl rfl ?hv ?_; (case hv => rfl); (case hold => rfl); intro z2 hz hb; have H4 : Box (Kb w z2 S K N /\ z2.heap[w1.heap.size]? = some (.cells (u32s B) 214 (0, 0)) /\ z2.heap[w2.heap.size]? = some (.cells (u32s M) 214 (0, 0)) /\ w1.heap.size < w2.heap.size /\ w2.heap.size < z2.heap.size) := ⟨H3.out.1.on hb, (hb.block _ H3.out.2.2).trans H3.out.2.1, hz, H3.out.2.2, (Array.getElem?_eq_some_iff.1 hz).1⟩; clear hz hb)
  | (go_at_call 138; refine (HMx.out _ (HT.out _ H2.out.1.bel)).mono ?_; rintro e w2 ⟨rfl, hb2⟩; have H3 : Box (Kb w w2 S K N /\ w2.heap[w1.heap.size]? = some (.cells (u32s B) 214 (0, 0)) /\ w1.heap.size < w2.heap.size) := ⟨H2.out.1.on hb2, (hb2.block _ (Array.getElem?_eq_some_iff.1 H2.out.2).1).trans H2.out.2, Nat.lt_of_lt_of_le (Array.getElem?_eq_some_iff.1 H2.out.2).1 hb2.size⟩; clear hb2)
  | (refine wpList_see16 w1.heap.size B hBl H2.out.2 rfl (.tmp 7) rfl rfl ?_)
  | (refine wpList_new16 w1 B hBl ?old ?hold rfl (.tmp 7) (.tmp 15) rfl rfl rfl ?hv ?_; (case hv => rfl); (case hold => rfl); intro z1 hz hb; have H2 : Box (Kb w z1 S K N /\ z1.heap[w1.heap.size]? = some (.cells (u32s B) 214 (0, 0))) := ⟨H1.out.on hb, hz⟩; clear hz hb)
  | (go_at_call 137; refine (HBg.out _).mono ?_; rintro e w1 ⟨rfl, hb1⟩; have H1 : Box (Kb w w1 S K N) := ⟨K0.out.on hb1⟩; clear hb1)
  | (refine wpList_seeNon (S + 1) N hNl K0.out.non rfl (.tmp 5) rfl rfl ?_)
  | (refine wpList_seeKey S K hKl K0.out.key rfl (.tmp 3) rfl rfl ?_))
 have hlt4 := H4.out.2.2.2
 have L0 : Box (Lk w (z2.alloc (.cells (fil8 [] 64) 180)) S w1.heap.size z2.heap.size B (cb M B 0)) := ⟨al_old H4.out.1.res, al_old H4.out.2.1, al_at rfl, H4.out.1.bel.alloc (by have := (Array.getElem?_eq_some_iff.1 H4.out.1.key).1; omega) _⟩
 have HNs : S + 1 + 1 < z2.heap.size /\ w1.heap.size < z2.heap.size /\ S <= z2.heap.size := ⟨(Array.getElem?_eq_some_iff.1 H4.out.1.res).1, by omega, by have := (Array.getElem?_eq_some_iff.1 H4.out.1.key).1; omega⟩
 have z64 := z64e
 rw [z64] at L0
 generalize z2.alloc (.cells _ 180) = x3 at L0 ⊢
 generalize z2.heap.size = G3 at L0 HNs ⊢
 obtain ⟨G1, HG1⟩ : ∃ G, Box (w1.heap.size = G) := ⟨_, ⟨rfl⟩⟩
 rw [HG1.out] at L0 HNs ⊢
 obtain ⟨n1, n2, n3⟩ := HNs
 clear K0 HT HBg HMx H1 H2 H3 H4 hlt4 z64 HG1
 go_loopw [19] (fun i wr => ∃ k : Nat, k <= 16 /\ i = .int .i64 k /\ Box (Lk w wr S G1 G3 B (cb M B k))) (fun i _ => 16 - (intOf i).toNat)
 case atStart => exact ⟨0, by omega, rfl, L0⟩
 case round =>
  clear L0
  obtain ⟨i, hi, rfl, HL⟩ := hrel
  by_cases hlt : i < 16
  ·have hidx := index42 M hMl i hlt
   have hsl := slice27 G3 i hlt
   have hw4 : IntKind.i64.wrap (4 * (i : Int)) = 4 * (i : Int) := by rw [IntKind.wrap_i64]; omega
   have hm := hMw i
   have hb := hBw i
   have c1 : wr.drew.cell? ⟨G1, i, none⟩ = some (.int .u32 (B.getD i 0)) := u32_cell wr G1 i B _ _ HL.out.wds (by omega)
   have HLd : Box (Lk w wr.drew S G1 G3 B (cb M B i)) := ⟨HL.out.res, HL.out.wds, HL.out.out, HL.out.bel.drew⟩
   have HO : Box (W32 (ow M B i)) := ⟨W32.ow M B i⟩
   have HX : Box (IntKind.u64.wrap ((M.getD i 0 + B.getD i 0) % 4294967296) = ow M B i) := ⟨by rw [IntKind.wrap_u64]; have := W32.ow M B i; unfold ow at this ⊢; unfold W32 at this; omega⟩
   have HMIN : Box (((bytesOf (ow M B i) 4).map (Value.int .u8)).length = Nat.min 4 (64 - 4 * i)) := ⟨by rw [List.length_map, length_bytesOf]; exact (Nat.min_eq_left (by omega)).symm⟩
   have HFIT : Box (4 * i + ((bytesOf (ow M B i) 4).map (Value.int .u8)).length <= (fil8 (cb M B i) 64).toList.length) := ⟨by rw [List.length_map, length_bytesOf]; have : (fil8 (cb M B i) 64).toList.length = 64 := size_fil8 _ _ (by rw [length_cb]; omega); omega⟩
   generalize M.getD i 0 = m at hidx hm HX
   generalize B.getD i 0 = b at c1 hb HX
   obtain ⟨m0, m1⟩ := hm
   obtain ⟨b0, b1⟩ := hb
   clear HL
   go_wp2
   refine wp_region_any (by kernel_rfl) ?_
   change wpAny _ _ _ _ _ _ _ (World.drew _)
   generalize World.drew wr = y7 at HLd c1 ⊢
   refine wpAny_take (i := 0) (v := ?_) rfl (by kernel_rfl) (by kernel_rfl) (by kernel_rfl) (fun _ _ _ h => h) (Or.inl ⟨by rfl, ?_⟩) ?_
   rotate_left
   ·intro w'; go_simp <;> with_reducible rfl
   try simp only [Act.put, pC, pD, pE, pF, pG]
   refine wpAny_take (i := 1) (v := ?_) rfl (by kernel_rfl) (by kernel_rfl) (by kernel_rfl) (fun _ _ _ h => h) (Or.inl ⟨by rfl, ?_⟩) ?_
   rotate_left
   ·intro w'; go_simp <;> with_reducible rfl
   try simp only [Act.put, pC, pD, pE, pF, pG, pH]
   refine wpAny_take (i := 2) (v := ?_) rfl (by kernel_rfl) (by kernel_rfl) (by kernel_rfl) (fun _ _ _ h => h) (Or.inl ⟨by rfl, ?_⟩) ?_
   rotate_left
   ·intro w'; go_simp <;> with_reducible rfl
   try simp only [Act.put, pC, pD, pE, pF, pG, pH]
   refine wpAny_take (i := 3) (v := ?_) rfl (by kernel_rfl) (by kernel_rfl) (by kernel_rfl) (fun _ _ _ h => h) (Or.inl ⟨by rfl, ?_⟩) ?_
   rotate_left
   ·intro w'; go_simp <;> with_reducible rfl
   try simp only [Act.put, pC, pD, pE, pF, pG, pH]
   refine wpAny_take (i := 4) (v := ?_) rfl (by kernel_rfl) (by kernel_rfl) (by kernel_rfl) (fun _ _ _ h => h) (Or.inl ⟨by rfl, ?_⟩) ?_
   rotate_left
   ·intro w'; go_simp <;> with_reducible rfl
   try simp only [Act.put, pC, pD, pE, pF, pG, pH]
   refine wpAny_take (i := 5) (v := ?_) rfl (by kernel_rfl) (by kernel_rfl) (by kernel_rfl) (fun _ _ _ h => h) (Or.inl ⟨by rfl, ?_⟩) ?_
   rotate_left
   ·intro w'; go_simp <;> with_reducible rfl
   try simp only [Act.put, pC, pD, pE, pF, pG, pH]
   refine wpAny_ready (rs := [6]) (by kernel_rfl) (by simp) ?_
   refine AllReady.cons rfl (fun K hK => ?_) AllReady.nil
   rw [if_pos (by rfl)]
   go_simp
   refine hK _ _ ?_
   clear hK K
   try simp only [Act.put, pC, pD, pE, pF, pG, pH]
   refine wpAny_take (i := 7) (v := ?_) rfl (by kernel_rfl) (by kernel_rfl) (by kernel_rfl) (fun _ _ _ h => h) (Or.inl ⟨by rfl, ?_⟩) ?_
   rotate_left
   ·intro w'; go_simp <;> with_reducible rfl
   try simp only [Act.put, pC, pD, pE, pF, pG, pH]
   refine wpAny_take (i := 8) (v := ?_) rfl (by kernel_rfl) (by kernel_rfl) (by kernel_rfl) (fun _ _ _ h => h) (Or.inl ⟨by rfl, ?_⟩) ?_
   rotate_left
   ·intro w'; go_simp <;> with_reducible rfl
   try simp only [Act.put, pC, pD, pE, pF, pG, pH]
   refine wpAny_ready (rs := [9]) (by kernel_rfl) (by simp) ?_
   refine AllReady.cons rfl (fun K hK => ?_) AllReady.nil
   rw [if_pos (by rfl)]
   go_simp
   refine Calls.mono (put_k _ (ow M B i) 4 _ _ HO.out.1 (by have := HO.out.2; omega) (by omega) (by omega) rfl HX.out) ?_
   rintro e y8 ⟨g, rfl, hB8, hb8⟩
   have H8 : Box (Lk w y8 S G1 G3 B (cb M B i) /\ Bytes y8 (some ⟨g, 0, none⟩) 4 (bytesOf (ow M B i) 4)) := ⟨HLd.out.on hb8, hB8⟩
   clear hB8 hb8
   refine hK _ _ ?_
   clear hK K
   try simp only [Act.put, pC, pD, pE, pF, pG, pH]
   refine wpAny_ready (rs := [10]) (by kernel_rfl) (by simp) ?_
   refine AllReady.cons rfl (fun K hK => ?_) AllReady.nil
   refine step_copy_splice rfl (.tmp 25) (.tmp 32) 57 57 rfl 5 Tryz.underlying57 size5 _ _ _ _ _ _ rfl rfl G3 (4 * i) (fil8 (cb M B i) 64).toList 180 H8.out.1.out ((bytesOf (ow M B i) 4).map (Value.int .u8)) HMIN.out (fun hq => ⟨rfl, H8.out.2.src (by omega)⟩) HFIT.out (ints_oneCell _ _) G3 y8 (Below.refl _ _) (Nat.le_refl _) ?_
   intro y9 hg9 hb9
   have I9 : Box (Lk w y9 S G1 G3 B (cb M B (i + 1))) := ⟨H8.out.1.copy n1 n2 n3 (bytesOf (ow M B i) 4) (4 * i) (length_cb M B i) (by rw [length_cb, length_bytesOf]; omega) hg9.out hb9⟩
   clear hg9 hb9 H8
   refine hK _ _ ?_
   clear hK K
   try simp only [Act.put, pC, pD, pE, pF, pG, pH]
   refine wpAny_done (by kernel_rfl) ?_ _
   go_wp2
   go_roundw
   case rel => exact ⟨i + 1, by omega, by go_num, I9⟩
   case measure => simp [intOf]; omega
  ·obtain rfl : i = 16 := by omega
   rw [<- HE.out] at HL
   obtain ⟨X, HX⟩ := named (blk K c N)
   have hXl : X.length = 64 := by rw [<- HX.out]; exact length_blk K c N
   rw [HX.out] at HL
   have hsz : (u8s X).size = 64 := by rw [size_u8s, hXl]
   have hall := all_u8s X
   have HW := HL.out.out
   rw [fil8_full X 64 hXl] at HW
   have HF : Box (wr.heap[G3]? = some (.cells (u8s X) 180 (0, 0)) /\ wr.heap[S + 1 + 1]? = some (.cells (fil8 [] 64) 180 (0, 0)) /\ Below S w wr) := ⟨HW, HL.out.res, HL.out.bel⟩
   clear HW HL
   go_wp2_with (first | (refine wpList_load_row rfl 180 _ rfl G3 rfl 180 (u8s X) (0, 0) _ HF.out.1 Tryz.underlying180 rfl (by rw [hsz]; kernel_rfl) ?_) | (refine wpList_store_row rfl 180 _ _ rfl (S + 1 + 1) (u8s X) rfl rfl 180 (fil8 [] 64) HF.out.2.1 (by rw [hsz]; kernel_rfl) (by rw [hsz]; rfl) hall ?_))
   (try simp only [Exit.inBlock, Exit.then])
   refine bodyPost_ret (results_cell_row (p := 6) (ty := 180) rfl _ _ (S + 1 + 1) 180 (u8s X) (0, 0) _ rfl (setRow_heap _ _ _ _ _ _ HF.out.2.1) Tryz.underlying180 rfl (by rw [hsz]; kernel_rfl)) rfl ?_
   exact ⟨by rw [HX.out], by rw [HS.out]; exact below_setRow HF.out.2.2 (by omega) _⟩
end Go.Proofs.YtjdjbjedfbmgpaaGreatDoor.Seal
