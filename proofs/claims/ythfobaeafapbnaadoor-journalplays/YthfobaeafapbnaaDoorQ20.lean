/-
 What the reference's Block answers, for every key, counter and nonce.
-/
import Derived.Lib.SlBytesConst
import Derived.Test.YthfobaeafapbnaaDoorQ19
set_option linter.unusedVariables false
set_option maxRecDepth 100000
namespace Go.Proofs.YthfobaeafapbnaaDoor.Seal.Plain
end Go.Proofs.YthfobaeafapbnaaDoor.Seal.Plain
namespace Go.Proofs.YthfobaeafapbnaaDoor.Seal
open Go.RowKit Go.Proofs.YthfobaeafapbnaaDoor.Plain Go.Proofs.YthfobaeafapbnaaDoor.Seal.Plain
def ex16 : List Int := [101, 120, 112, 97, 110, 100, 32, 51, 50, 45, 98, 121, 116, 101, 32, 107]
theorem byt_ex16 : Byt ex16 := by
 intro i
 by_cases h : i < 16
 ·have key : ∀ j : Fin 16, 0 <= ex16.getD j.val 0 /\ ex16.getD j.val 0 <= 255 := by decide +kernel
  exact key ⟨i, h⟩
 ·rw [getD_high0 _ _ (by show 16 <= i; omega)]; omega
theorem four_is : wds ex16 4 = four := by decide +kernel
theorem qa_low (j : Nat) (h : j < 4) : qa j 0 = j /\ qa j 1 = 4 + j /\ qa j 2 = 8 + j /\ qa j 3 = 12 + j := by
 have key : ∀ j : Fin 4, qa j.val 0 = j.val /\ qa j.val 1 = 4 + j.val /\ qa j.val 2 = 8 + j.val /\ qa j.val 3 = 12 + j.val := by decide +kernel
 exact key ⟨j, h⟩
theorem qa_high (j : Nat) (h : j < 4) : qa (4 + j) 0 = j /\ qa (4 + j) 1 = 4 + (j + 1) % 4 /\ qa (4 + j) 2 = 8 + (j + 2) % 4 /\ qa (4 + j) 3 = 12 + (j + 3) % 4 := by
 have key : ∀ j : Fin 4, qa (4 + j.val) 0 = j.val /\ qa (4 + j.val) 1 = 4 + (j.val + 1) % 4 /\ qa (4 + j.val) 2 = 8 + (j.val + 2) % 4 /\ qa (4 + j.val) 3 = 12 + (j.val + 3) % 4 := by decide +kernel
 exact key ⟨j, h⟩
theorem at_k (a : Option Addr) (len cap : Nat) (B : List Int) (p : Nat) (pi : Int) (w : World) (hb : Bytes w a len B) (hl : len <= 1000) (hi : p + 4 <= len) (h : pi = p) :
  Calls Tryd.prog 83 #[.slice a len cap, .int .i64 pi] w fun e w' => e = .returned (.int .u32 (num B p 4)) /\ w = w' := by
 subst h; exact at_any a len cap B p w hb hl hi
theorem quarter_k (L : List Int) (a b c d : Nat) (ai bi ci di : Int) (w : World) (hL : L.length = 16) (hw : Wrd L) (ha : a < 16) (hb : b < 16) (hc : c < 16) (hd : d < 16) (h1 : ai = a) (h2 : bi = b) (h3 : ci = c) (h4 : di = d) (L' : List Int) (hL' : qr L a b c d = L') :
  Calls Tryd.prog 84 #[.agg (u32s L), .int .i64 ai, .int .i64 bi, .int .i64 ci, .int .i64 di] w fun e w' => e = .returned (.agg (u32s L')) /\ Below w.heap.size w w' := by
 subst h1; subst h2; subst h3; subst h4; subst hL'; exact quarter_any L a b c d w hL hw ha hb hc hd
structure Rb (w wr : World) (S T R G E : Nat) (K N X : List Int) : Prop where
 key : wr.heap[S]? = some (.cells (u8s K) 23 (0, 0))
 non : wr.heap[T]? = some (.cells (u8s N) 150 (0, 0))
 res : wr.heap[R]? = some (.cells (fil8 [] 64) 142 (0, 0))
 wds : wr.heap[G]? = some (.cells (fil X 16) 170 (0, 0))
 exp : wr.heap[E]? = some (.cells (u8s ex16) 5 (16, 17))
 bel : Below S w wr
theorem Rb.step {w wr : World} {S T R G E : Nat} {K N X : List Int} (h : Rb w wr S T R G E K N X) (n1 : S ≠ G) (n2 : T ≠ G) (n3 : R ≠ G) (n4 : E ≠ G) (n5 : S <= G) (i : Nat) (hi : X.length = i) (hX : i < 16) (v : Int) : Rb w (wr.setCell ⟨G, i, none⟩ (.int .u32 v)) S T R G E K N (X ++ [v]) := by
 subst hi
 exact ⟨by rw [heap_setCell_other wr ⟨G, X.length, none⟩ S _ n1]; exact h.key, by rw [heap_setCell_other wr ⟨G, X.length, none⟩ T _ n2]; exact h.non, by rw [heap_setCell_other wr ⟨G, X.length, none⟩ R _ n3]; exact h.res,
  by rw [heap_setCell_same wr G X.length _ 170 _ h.wds, fil_set X 16 v hX], by rw [heap_setCell_other wr ⟨G, X.length, none⟩ E _ n4]; exact h.exp, below_set h.bel n5 _⟩
theorem Rb.cell {w wr : World} {S T R G E : Nat} {K N X : List Int} (h : Rb w wr S T R G E K N X) (i : Nat) (hi : i < 16) (hX : X.length <= 16) : ∃ v, wr.cell? ⟨G, i, none⟩ = some v := by
 obtain ⟨v, hv⟩ := fil_some X 16 i hi hX
 exact ⟨v, by rw [cell_of_row _ _ _ _ _ _ h.wds]; exact hv⟩
theorem Rb.frozen {w wr : World} {S T R G E : Nat} {K N X : List Int} (h : Rb w wr S T R G E K N X) (i : Nat) : wr.frozen? ⟨G, i, none⟩ = false := frozen_of_row wr G i _ 170 h.wds
theorem rowB {w : World} {g n : Nat} {X : List Int} {t : TypeId} {fr : Nat × Nat} (h : w.heap[g]? = some (.cells (u8s X) t fr)) (hX : Byt X) (hl : X.length = n) : Bytes w (some ⟨g, 0, none⟩) n X := by
 have := bytes_of_row hX h
 rwa [hl] at this
structure Rv (w wr : World) (S R G V : Nat) (B L : List Int) : Prop where
 res : wr.heap[R]? = some (.cells (fil8 [] 64) 142 (0, 0))
 wds : wr.heap[G]? = some (.cells (u32s B) 170 (0, 0))
 mix : wr.heap[V]? = some (.cells (u32s L) 170 (0, 0))
 len : L.length = 16
 wrd : Wrd L
 bel : Below S w wr
theorem Rv.on {w wr wx : World} {S R G V : Nat} {B L : List Int} (h : Rv w wr S R G V B L) (hS : S <= wr.heap.size) (hb : Below wr.heap.size wr wx) : Rv w wx S R G V B L :=
 ⟨row_on h.res hb, row_on h.wds hb, row_on h.mix hb, h.len, h.wrd, h.bel.trans (hb.mono hS)⟩
theorem Rv.lay {w wr : World} {S R G V : Nat} {B L : List Int} (h : Rv w wr S R G V B L) (n1 : R ≠ V) (n2 : G ≠ V) (n3 : S <= V) (L' : List Int) (hl : L'.length = 16) (hw : Wrd L') : Rv w (wr.setRow V (u32s L')) S R G V B L' :=
 ⟨by rw [setRow_other _ _ _ _ n1]; exact h.res, by rw [setRow_other _ _ _ _ n2]; exact h.wds, setRow_heap _ _ _ _ _ _ h.mix, hl, hw, below_setRow h.bel n3 _⟩
structure Ro (w wr : World) (S R G V O : Nat) (B M X : List Int) : Prop where
 res : wr.heap[R]? = some (.cells (fil8 [] 64) 142 (0, 0))
 wds : wr.heap[G]? = some (.cells (u32s B) 170 (0, 0))
 mix : wr.heap[V]? = some (.cells (u32s M) 170 (0, 0))
 out : wr.heap[O]? = some (.cells (fil8 X 64) 142 (0, 0))
 bel : Below S w wr
theorem Ro.drewN {w wr : World} {S R G V O : Nat} {B M X : List Int} (h : Ro w wr S R G V O B M X) (n : Nat) : Ro w (wr.drewN n) S R G V O B M X := ⟨h.res, h.wds, h.mix, h.out, h.bel.os, h.bel.tape, h.bel.output, h.bel.size, h.bel.block⟩
theorem Ro.put {w wr : World} {S R G V O : Nat} {B M X : List Int} (h : Ro w wr S R G V O B M X) (n1 : R ≠ O) (n2 : G ≠ O) (n3 : V ≠ O) (n4 : S <= O) (i : Nat) (hi : X.length = i) (hX : i < 64) (v : Int) : Ro w (wr.setCell ⟨O, i, none⟩ (.int .u8 v)) S R G V O B M (X ++ [v]) := by
 subst hi
 exact ⟨by rw [heap_setCell_other wr ⟨O, X.length, none⟩ R _ n1]; exact h.res, by rw [heap_setCell_other wr ⟨O, X.length, none⟩ G _ n2]; exact h.wds, by rw [heap_setCell_other wr ⟨O, X.length, none⟩ V _ n3]; exact h.mix,
  by rw [heap_setCell_same wr O X.length _ 142 _ h.out, fil8_set X 64 v hX], below_set h.bel n4 _⟩
set_option maxRecDepth 20000 in
set_option maxHeartbeats 4000000 in
theorem rblock_any (K N : List Int) (c : Int) (w : World) (hK : Byt K) (hKl : K.length = 32) (hN : Byt N) (hNl : N.length = 12) (hc : W32 c) :
  Calls Tryd.prog 78 #[.agg (u8s K), .int .u32 c, .agg (u8s N)] w fun e w' => e = .returned (.agg (u8s (blk K c N))) /\ Below w.heap.size w w' := by
 obtain ⟨S, hS⟩ : ∃ S, w.heap.size = S := ⟨_, rfl⟩
 have HS : Hid (w.heap.size = S) := hS
 have A4 := four_alloc hS (.cells (u8s K) 23) (.cells (u8s N) 150) (.cells (fil8 [] 64) 142) (.cells (fil [] 16) 170)
 have H0' : Box (((((w.alloc (.cells (u8s K) 23)).alloc (.cells (u8s N) 150)).alloc (.cells (fil8 [] 64) 142)).alloc (.cells (fil [] 16) 170)).heap[S]? = some (.cells (u8s K) 23 (0, 0)) /\ ((((w.alloc (.cells (u8s K) 23)).alloc (.cells (u8s N) 150)).alloc (.cells (fil8 [] 64) 142)).alloc (.cells (fil [] 16) 170)).heap[S + 1]? = some (.cells (u8s N) 150 (0, 0)) /\ ((((w.alloc (.cells (u8s K) 23)).alloc (.cells (u8s N) 150)).alloc (.cells (fil8 [] 64) 142)).alloc (.cells (fil [] 16) 170)).heap[S + 1 + 1]? = some (.cells (fil8 [] 64) 142 (0, 0)) /\ ((((w.alloc (.cells (u8s K) 23)).alloc (.cells (u8s N) 150)).alloc (.cells (fil8 [] 64) 142)).alloc (.cells (fil [] 16) 170)).heap[S + 1 + 1 + 1]? = some (.cells (fil [] 16) 170 (0, 0)) /\ Below S w ((((w.alloc (.cells (u8s K) 23)).alloc (.cells (u8s N) 150)).alloc (.cells (fil8 [] 64) 142)).alloc (.cells (fil [] 16) 170))) := ⟨A4⟩
 have z16 : fil [] 16 = #[.int .u32 0, .int .u32 0, .int .u32 0, .int .u32 0, .int .u32 0, .int .u32 0, .int .u32 0, .int .u32 0, .int .u32 0, .int .u32 0, .int .u32 0, .int .u32 0, .int .u32 0, .int .u32 0, .int .u32 0, .int .u32 0] := rfl
 have z64 := z64e
 rw [z16, z64] at H0'
 have kc := fun (w : World) (C : Array Value) (n c : Nat) => Lib.run_convert_bytes_const (P := Tryd.prog) w 63 5 C n c Tryd.underlying63 Tryd.underlying5
 have HW : Box (Wrd (beg K c N)) := ⟨wrd_beg K c N hK hc hN⟩
 clear hS z16 z64 A4
 go_enter Tryd.func78, Tryd.ntmps78
 go_upto_region 2 with fail
 rw [HS.out]
 generalize (((w.alloc (.cells (u8s K) 23)).alloc _).alloc _).alloc _ = x0 at H0' ⊢
 obtain ⟨T, HT⟩ : ∃ T, Box (S + 1 = T) := ⟨_, ⟨rfl⟩⟩
 rw [HT.out] at H0' ⊢
 obtain ⟨R, HR⟩ : ∃ R, Box (T + 1 = R) := ⟨_, ⟨rfl⟩⟩
 rw [HR.out] at H0' ⊢
 obtain ⟨G, HG⟩ : ∃ G, Box (R + 1 = G) := ⟨_, ⟨rfl⟩⟩
 rw [HG.out] at H0' ⊢
 have hGx := (Array.getElem?_eq_some_iff.1 H0'.out.2.2.2.1).1
 have H0 : Box (Rb w (x0.alloc (.cells (u8s ex16) 5 (16, 17))) S T R G x0.heap.size K N (wds ex16 0)) := ⟨al_old H0'.out.1, al_old H0'.out.2.1, al_old H0'.out.2.2.1, al_old H0'.out.2.2.2.1, al_at rfl, H0'.out.2.2.2.2.alloc (by have := HT.out; have := HR.out; have := HG.out; omega) _⟩
 have zex : u8s ex16 = #[.int .u8 101, .int .u8 120, .int .u8 112, .int .u8 97, .int .u8 110, .int .u8 100, .int .u8 32, .int .u8 51, .int .u8 50, .int .u8 45, .int .u8 98, .int .u8 121, .int .u8 116, .int .u8 101, .int .u8 32, .int .u8 107] := rfl
 rw [zex] at H0
 clear zex
 go_wp2
 have hST : S ≠ G /\ T ≠ G /\ R ≠ G /\ x0.heap.size ≠ G /\ S <= G /\ S <= R := by have := HT.out; have := HR.out; have := HG.out; omega
 generalize x0.alloc (.cells _ 5 (16, 17)) = x1 at H0 ⊢
 generalize x0.heap.size = E at H0 hST ⊢
 obtain ⟨n1, n2, n3, n4, n5, n6⟩ := hST
 clear HT HR HG H0' kc hGx
 go_loopw [9] (fun i wr => ∃ k : Nat, k <= 4 /\ i = .int .i64 k /\ Box (Rb w wr S T R G E K N (wds ex16 k))) (fun i _ => 4 - (intOf i).toNat)
 case atStart => exact ⟨0, by omega, rfl, H0⟩
 case round =>
  clear H0
  obtain ⟨k, hk, rfl, HB⟩ := hrel
  by_cases hlt9 : k < 4
  ·have hX : (wds ex16 k).length = k := by rw [length_wds]
   obtain ⟨v, hcw⟩ := HB.out.cell (k) (by omega) (by rw [hX]; omega)
   have f1 := HB.out.frozen (k)
   have HN := HB.out.step n1 n2 n3 n4 n5 (k) hX (by omega) (num ex16 (4 * k) 4)
   rw [show wds ex16 k ++ [num ex16 (4 * k) 4] = wds ex16 (k + 1) from rfl] at HN
   have HM : Box (Rb w (wr.setCell ⟨G, k, none⟩ (.int .u32 (num ex16 (4 * k) 4))) S T R G E K N (wds ex16 (k + 1))) := ⟨HN⟩
   clear HN hX
   have HC : Box (Calls Tryd.prog 83 #[.slice (some ⟨E, 0, none⟩) 16 16, .int .i64 (4 * (k : Int))] wr fun e w' => e = .returned (.int .u32 (num ex16 (4 * k) 4)) /\ wr = w') := ⟨at_k _ 16 16 ex16 (4 * k) _ wr (rowB HB.out.exp byt_ex16 rfl) (by omega) (by omega) (by simp)⟩
   generalize num ex16 (4 * k) 4 = x at HC HM
   go_wp2_with (go_at_call 83; refine HC.out.mono ?_; rintro e w' ⟨rfl, rfl⟩)
   go_roundw
   case rel => exact ⟨k + 1, by omega, by go_num, HM⟩
   case measure => simp [intOf]; omega
  ·have HK9 : Box (k = 4) := ⟨by omega⟩
   rw [HK9.out] at HB
   have H1 : Box (Rb w wr S T R G E K N (four ++ wds K 0)) := ⟨by rw [show wds K 0 = [] from rfl, List.append_nil, <- four_is]; exact HB.out⟩
   have h4 : four.length = 4 := rfl
   clear HB
   go_wp2
   rename_i _ ax _ _ _
   clear ax
   go_loopw [10] (fun i wr => ∃ k : Nat, k <= 8 /\ i = .int .i64 k /\ Box (Rb w wr S T R G E K N (four ++ wds K k))) (fun i _ => 8 - (intOf i).toNat)
   case atStart => exact ⟨0, by omega, rfl, H1⟩
   case round =>
    clear H1
    obtain ⟨k, hk, rfl, HB⟩ := hrel
    by_cases hlt10 : k < 8
    ·have hX : (four ++ wds K k).length = 4 + k := by rw [List.length_append, length_wds, h4]
     obtain ⟨v, hcw⟩ := HB.out.cell (4 + k) (by omega) (by rw [hX]; omega)
     have f1 := HB.out.frozen (4 + k)
     have HN := HB.out.step n1 n2 n3 n4 n5 (4 + k) hX (by omega) (num K (4 * k) 4)
     rw [List.append_assoc, show wds K k ++ [num K (4 * k) 4] = wds K (k + 1) from rfl] at HN
     have HM : Box (Rb w (wr.setCell ⟨G, 4 + k, none⟩ (.int .u32 (num K (4 * k) 4))) S T R G E K N (four ++ wds K (k + 1))) := ⟨HN⟩
     clear HN hX
     have HC : Box (Calls Tryd.prog 83 #[.slice (some ⟨S, 0, none⟩) 32 32, .int .i64 (4 * (k : Int))] wr fun e w' => e = .returned (.int .u32 (num K (4 * k) 4)) /\ wr = w') := ⟨at_k _ 32 32 K (4 * k) _ wr (rowB HB.out.key hK hKl) (by omega) (by omega) (by simp)⟩
     generalize num K (4 * k) 4 = x at HC HM
     go_wp2_with (go_at_call 83; refine HC.out.mono ?_; rintro e w' ⟨rfl, rfl⟩)
     go_roundw
     case rel => exact ⟨k + 1, by omega, by go_num, HM⟩
     case measure => simp [intOf]; omega
    ·have HK10 : Box (k = 8) := ⟨by omega⟩
     rw [HK10.out] at HB
     obtain ⟨Y, HY⟩ := named (four ++ wds K 8)
     have hYl : Y.length = 12 := by rw [<- HY.out]; simp [length_wds, h4]
     rw [HY.out] at HB
     obtain ⟨v, hcw⟩ := HB.out.cell 12 (by omega) (by omega)
     have f1 := HB.out.frozen 12
     have HN := HB.out.step n1 n2 n3 n4 n5 12 hYl (by omega) c
     obtain ⟨Z, HZ⟩ := named (Y ++ [c])
     have hZl : Z.length = 13 := by rw [<- HZ.out]; simp [hYl]
     have HEb : Box (Z ++ wds N 3 = beg K c N) := ⟨by rw [<- HZ.out, <- HY.out]; rfl⟩
     rw [HZ.out] at HN
     have H2 : Box (Rb w (wr.setCell ⟨G, 12, none⟩ (.int .u32 c)) S T R G E K N (Z ++ wds N 0)) := ⟨by rw [show wds N 0 = [] from rfl, List.append_nil]; exact HN⟩
     clear HN HB HZ HY hYl
     go_wp2
     rename_i _ ax _ _ _
     clear ax
     generalize wr.setCell ⟨G, 12, none⟩ (.int .u32 c) = x1 at H2 ⊢
     clear hcw f1
     go_loopw [11] (fun i wr => ∃ k : Nat, k <= 3 /\ i = .int .i64 k /\ Box (Rb w wr S T R G E K N (Z ++ wds N k))) (fun i _ => 3 - (intOf i).toNat)
     case atStart => exact ⟨0, by omega, rfl, H2⟩
     case round =>
      clear H2
      obtain ⟨k, hk, rfl, HB⟩ := hrel
      by_cases hlt11 : k < 3
      ·have hX : (Z ++ wds N k).length = 13 + k := by rw [List.length_append, length_wds, hZl]
       obtain ⟨v, hcw⟩ := HB.out.cell (13 + k) (by omega) (by rw [hX]; omega)
       have f1 := HB.out.frozen (13 + k)
       have HN := HB.out.step n1 n2 n3 n4 n5 (13 + k) hX (by omega) (num N (4 * k) 4)
       rw [List.append_assoc, show wds N k ++ [num N (4 * k) 4] = wds N (k + 1) from rfl] at HN
       have HM : Box (Rb w (wr.setCell ⟨G, 13 + k, none⟩ (.int .u32 (num N (4 * k) 4))) S T R G E K N (Z ++ wds N (k + 1))) := ⟨HN⟩
       clear HN hX
       have HC : Box (Calls Tryd.prog 83 #[.slice (some ⟨T, 0, none⟩) 12 12, .int .i64 (4 * (k : Int))] wr fun e w' => e = .returned (.int .u32 (num N (4 * k) 4)) /\ wr = w') := ⟨at_k _ 12 12 N (4 * k) _ wr (rowB HB.out.non hN hNl) (by omega) (by omega) (by simp)⟩
       generalize num N (4 * k) 4 = x at HC HM
       go_wp2_with (go_at_call 83; refine HC.out.mono ?_; rintro e w' ⟨rfl, rfl⟩)
       go_roundw
       case rel => exact ⟨k + 1, by omega, by go_num, HM⟩
       case measure => simp [intOf]; omega
      ·have HK11 : Box (k = 3) := ⟨by omega⟩
       rw [HK11.out] at HB
       rw [HEb.out] at HB
       have hBw := HW.out
       have HBe : Box (∀ X, beg K c N = X -> blk K c N = cb (rn X 10) X 16) := ⟨fun X hX => by subst hX; rfl⟩
       have hBl : (beg K c N).length = 16 := length_beg K c N
       obtain ⟨B, EB⟩ := named (beg K c N)
       rw [EB.out] at HB hBw hBl
       have HF := HBe.out B EB.out
       have HFb : Box (blk K c N = cb (rn B 10) B 16) := ⟨HF⟩
       have HW1 := HB.out.wds
       rw [fil_full B 16 hBl] at HW1
       have HB1 : Box (wr.heap[R]? = some (.cells (fil8 [] 64) 142 (0, 0)) /\ wr.heap[G]? = some (.cells (u32s B) 170 (0, 0)) /\ Below S w wr /\ S <= wr.heap.size /\ R < wr.heap.size /\ G < wr.heap.size) := ⟨HB.out.res, HW1, HB.out.bel, by have := (Array.getElem?_eq_some_iff.1 HB.out.key).1; omega, (Array.getElem?_eq_some_iff.1 HB.out.res).1, (Array.getElem?_eq_some_iff.1 HW1).1⟩
       clear HF HBe EB HW1 HB HW HEb
       go_wp2_with (first
        | (refine wpList_new16 wr B hBl ?old ?hold rfl (.tmp 12) (.tmp 55) rfl rfl rfl ?hv ?_; (case hv => rfl); (case hold => rfl); intro z hz hb; have H3 : Box (Rv w z S R G wr.heap.size B (rn B 0)) := ⟨row_on HB1.out.1 hb, row_on HB1.out.2.1 hb, hz, hBl, hBw, HB1.out.2.2.1.trans (hb.mono HB1.out.2.2.2.1)⟩; clear hz hb)
        | (refine wpList_see16 G B hBl HB1.out.2.1 rfl (.tmp 7) rfl rfl ?_))
       rename_i _ ax _ _ _
       clear ax
       obtain ⟨V, HV⟩ : ∃ V, Box (wr.heap.size = V) := ⟨_, ⟨rfl⟩⟩
       rw [HV.out] at H3 ⊢
       have hV : R ≠ V /\ G ≠ V /\ S <= V := by have h1 := HB1.out.2.2.2; rw [HV.out] at h1; omega
       obtain ⟨v1, v2, v3⟩ := hV
       clear HB1 HV
       go_loopw [13] (fun i wr => ∃ k : Nat, k <= 10 /\ i = .int .i64 k /\ Box (Rv w wr S R G V B (rn B k))) (fun i _ => 10 - (intOf i).toNat)
       case atStart => exact ⟨0, by omega, rfl, H3⟩
       case round =>
        clear H3
        obtain ⟨k, hk, rfl, HV0⟩ := hrel
        by_cases hlt13 : k < 10
        ·obtain ⟨L0, E0⟩ := named (rn B k)
         rw [E0.out] at HV0
         go_wp2
         rw [show decide ((k : Int) < 10) = true from by simp; omega]
         go_loopw [14] (fun i wr => ∃ j : Nat, j <= 4 /\ i = .int .i64 j /\ Box (Rv w wr S R G V B (row L0 j))) (fun i _ => 4 - (intOf i).toNat)
         case atStart => exact ⟨0, by omega, rfl, HV0⟩
         case round =>
          clear HV0
          obtain ⟨j, hj, rfl, HR0⟩ := hrel
          by_cases hlt14 : j < 4
          ·have hq := qa_low j hlt14
           have HP : Box (qr (row L0 j) j (4 + j) (8 + j) (12 + j) = row L0 (j + 1)) := ⟨by show _ = qr (row L0 j) (qa j 0) (qa j 1) (qa j 2) (qa j 3); rw [hq.1, hq.2.1, hq.2.2.1, hq.2.2.2]⟩
           clear hq
           obtain ⟨M, EM⟩ := named (row L0 j)
           rw [EM.out] at HP HR0
           obtain ⟨M', EM'⟩ := named (row L0 (j + 1))
           rw [EM'.out] at HP
           have hM'l : M'.length = 16 := by rw [<- HP.out, length_qr, HR0.out.len]
           have hM'w : Wrd M' := by rw [<- HP.out]; exact wrd_qr _ _ _ _ _ HR0.out.wrd
           have hMs : (u32s M').size = 16 := by rw [size_u32s, hM'l]
           go_wp2_with (first
            | (refine wpList_store_row rfl 170 (.tmp 12) (.tmp 72) rfl V (u32s M') rfl rfl 170 (u32s M) H5.out.mix (by rw [hMs]; kernel_rfl) (by rw [hMs, size_u32s]; exact H5.out.len) (all_u32s M') ?_)
            | (go_at_call 84; refine (quarter_k M j (4 + j) (8 + j) (12 + j) _ _ _ _ wr HR0.out.len HR0.out.wrd (by omega) (by omega) (by omega) (by omega) (by simp) (by simp) (by simp) (by simp) M' HP.out).mono ?_; rintro e w5 ⟨rfl, hb5⟩; have H5 : Box (Rv w w5 S R G V B M) := ⟨HR0.out.on (by have := (Array.getElem?_eq_some_iff.1 HR0.out.mix).1; omega) hb5⟩; clear hb5)
            | (refine wpList_see16 V M HR0.out.len HR0.out.mix rfl (.tmp 12) rfl rfl ?_))
           have H6 : Box (Rv w (w5.setRow V (u32s M')) S R G V B (row L0 (j + 1))) := ⟨by rw [EM'.out]; exact H5.out.lay v1 v2 v3 M' hM'l hM'w⟩
           go_roundw
           case rel => exact ⟨j + 1, by omega, by go_num, H6⟩
           case measure => simp [intOf]; omega
          ·have HJ14 : Box (j = 4) := ⟨by omega⟩
           rw [HJ14.out] at HR0
           go_wp2
           go_loopw [15] (fun i wr => ∃ j : Nat, j <= 4 /\ i = .int .i64 j /\ Box (Rv w wr S R G V B (row L0 (4 + j)))) (fun i _ => 4 - (intOf i).toNat)
           case atStart => exact ⟨0, by omega, rfl, HR0⟩
           case round =>
            clear HR0
            obtain ⟨j, hj, rfl, HR0⟩ := hrel
            by_cases hlt15 : j < 4
            ·have hq := qa_high j hlt15
             have HP : Box (qr (row L0 (4 + j)) j (4 + (j + 1) % 4) (8 + (j + 2) % 4) (12 + (j + 3) % 4) = row L0 ((4 + j) + 1)) := ⟨by show _ = qr (row L0 (4 + j)) (qa (4 + j) 0) (qa (4 + j) 1) (qa (4 + j) 2) (qa (4 + j) 3); rw [hq.1, hq.2.1, hq.2.2.1, hq.2.2.2]⟩
             clear hq
             obtain ⟨r1, hr1⟩ : ∃ r, (j + 1) % 4 = r := ⟨_, rfl⟩
             have er1 : ((j : Int) + 1) % 4 = (r1 : Int) := by omega
             have rl1 : r1 < 4 := by omega
             rw [hr1] at HP
             obtain ⟨r2, hr2⟩ : ∃ r, (j + 2) % 4 = r := ⟨_, rfl⟩
             have er2 : ((j : Int) + 2) % 4 = (r2 : Int) := by omega
             have rl2 : r2 < 4 := by omega
             rw [hr2] at HP
             obtain ⟨r3, hr3⟩ : ∃ r, (j + 3) % 4 = r := ⟨_, rfl⟩
             have er3 : ((j : Int) + 3) % 4 = (r3 : Int) := by omega
             have rl3 : r3 < 4 := by omega
             rw [hr3] at HP
             obtain ⟨M, EM⟩ := named (row L0 (4 + j))
             rw [EM.out] at HP HR0
             obtain ⟨M', EM'⟩ := named (row L0 ((4 + j) + 1))
             rw [EM'.out] at HP
             have hM'l : M'.length = 16 := by rw [<- HP.out, length_qr, HR0.out.len]
             have hM'w : Wrd M' := by rw [<- HP.out]; exact wrd_qr _ _ _ _ _ HR0.out.wrd
             have hMs : (u32s M').size = 16 := by rw [size_u32s, hM'l]
             go_wp2_with (first
              | (refine wpList_store_row rfl 170 (.tmp 12) (.tmp 91) rfl V (u32s M') rfl rfl 170 (u32s M) H5.out.mix (by rw [hMs]; kernel_rfl) (by rw [hMs, size_u32s]; exact H5.out.len) (all_u32s M') ?_)
              | (go_at_call 84; refine (quarter_k M j (4 + r1) (8 + r2) (12 + r3) _ _ _ _ wr HR0.out.len HR0.out.wrd (by omega) (by omega) (by omega) (by omega) (by simp) (by simp) (by simp) (by simp) M' HP.out).mono ?_; rintro e w5 ⟨rfl, hb5⟩; have H5 : Box (Rv w w5 S R G V B M) := ⟨HR0.out.on (by have := (Array.getElem?_eq_some_iff.1 HR0.out.mix).1; omega) hb5⟩; clear hb5)
              | (refine wpList_see16 V M HR0.out.len HR0.out.mix rfl (.tmp 12) rfl rfl ?_))
             have H6 : Box (Rv w (w5.setRow V (u32s M')) S R G V B (row L0 ((4 + j) + 1))) := ⟨by rw [EM'.out]; exact H5.out.lay v1 v2 v3 M' hM'l hM'w⟩
             go_roundw
             case rel => exact ⟨j + 1, by omega, by go_num, H6⟩
             case measure => simp [intOf]; omega
            ·have HJ15 : Box (j = 4) := ⟨by omega⟩
             rw [HJ15.out] at HR0
             have H7 : Box (Rv w wr S R G V B (rn B (k + 1))) := ⟨by rw [rn, E0.out]; exact HR0.out⟩
             clear HR0
             go_wp2
             go_roundw
             case rel => exact ⟨k + 1, by omega, by go_num, H7⟩
             case measure => simp [intOf]; omega
        ·have HKt : Box (k = 10) := ⟨by omega⟩
         rw [HKt.out] at HV0
         obtain ⟨M, EM⟩ := named (rn B 10)
         rw [EM.out] at HV0 HFb
         have hMl := HV0.out.len
         have hMw := HV0.out.wrd
         have O0 : Box (Ro w (wr.alloc (.cells (fil8 [] 64) 142)) S R G V wr.heap.size B M ((cb M B 16).take 0)) := ⟨al_old HV0.out.res, al_old HV0.out.wds, al_old HV0.out.mix, al_at rfl, HV0.out.bel.alloc (by have := (Array.getElem?_eq_some_iff.1 HV0.out.mix).1; omega) _⟩
         have hO : R < wr.heap.size /\ G < wr.heap.size /\ V < wr.heap.size := ⟨(Array.getElem?_eq_some_iff.1 HV0.out.res).1, (Array.getElem?_eq_some_iff.1 HV0.out.wds).1, (Array.getElem?_eq_some_iff.1 HV0.out.mix).1⟩
         have z64 := z64e
         rw [z64] at O0
         clear z64 HV0
         go_wp2
         rename_i _ ax _ _ _
         clear ax
         generalize wr.alloc (.cells _ 142) = x4 at O0 ⊢
         generalize wr.heap.size = O at O0 hO ⊢
         obtain ⟨o1, o2, o3⟩ := hO
         go_loopw [17] (fun i wr => ∃ k : Nat, k <= 64 /\ i = .int .i64 k /\ Box (Ro w wr S R G V O B M ((cb M B 16).take k))) (fun i _ => 64 - (intOf i).toNat)
         case atStart => exact ⟨0, by omega, rfl, O0⟩
         case round =>
          clear O0
          obtain ⟨i, hi, rfl, HO⟩ := hrel
          by_cases hlt17 : i < 64
          ·have hcb : (cb M B 16).take (i + 1) = (cb M B 16).take i ++ [byteAt (ow M B (i / 4)) (i % 4)] := by
            have hl : i < (cb M B 16).length := by rw [length_cb]; omega
            rw [List.take_succ_eq_append_getElem hl, <- cb_at M B 16 i (by omega)]
            simp [List.getD, hl]
           have hlen : ((cb M B 16).take i).length = i := by rw [List.length_take, length_cb]; omega
           have e4 : (i : Int) / 4 = ((i / 4 : Nat) : Int) := by omega
           have er : (i : Int) % 4 = ((i % 4 : Nat) : Int) := by omega
           have hq : i / 4 < 16 := by omega
           have hr : i % 4 < 4 := by omega
           have hcb' : (cb M B 16).take (i + 1) = (cb M B 16).take i ++ [ow M B (i / 4) / 2 ^ (8 * (i % 4)) % 256] := hcb
           generalize i / 4 = q at hcb' e4 hq
           generalize i % 4 = r at hcb' er hr
           clear hcb
           have cV := u32_cell wr V q M _ _ HO.out.mix (by omega)
           have cG := u32_cell wr G q B _ _ HO.out.wds (by omega)
           have hm := hMw q
           have hb := hBw q
           have HX : Box ((M.getD q 0 + B.getD q 0) % 4294967296 = ow M B q) := ⟨rfl⟩
           generalize M.getD q 0 = mq at cV hm HX
           generalize B.getD q 0 = bq at cG hb HX
           obtain ⟨m0, m1⟩ := hm
           obtain ⟨b0, b1⟩ := hb
           have HKP : Box (((cb M B 16).take (i + 1) = (cb M B 16).take i ++ [ow M B q / 2 ^ (8 * r) % 256]) /\ ((cb M B 16).take i).length = i /\ (i : Int) % 4 = (r : Int) /\ r < 4 /\ M.length = 16 /\ R < O /\ G < O /\ V < O /\ S <= V) := ⟨hcb', hlen, er, hr, hMl, o1, o2, o3, v3⟩
           clear hcb' hlen er hr hMl o1 o2 o3 v1 v2 v3 n1 n2 n3 n4 n5 n6 hMw hBw hBl h4 hZl hKl hNl hK hN hc HS HFb EM HK9 HK10 HK11 HKt hlt9 hlt10 hlt11 hlt13
           go_wp2
           go_quiet (fail)
           obtain ⟨hcb', hlen, er, hr, hMl, o1, o2, o3, v3⟩ := HKP.out
           have HD : Box (Ro w (wr.drewN nq) S R G V O B M ((cb M B 16).take i)) := ⟨HO.out.drewN nq⟩
           clear cV cG HO
           generalize wr.drewN nq = y1 at HD ⊢
           clear nq
           have hx := W32.ow M B q
           rw [<- HX.out] at hx hcb'
           clear HX
           generalize (mq + bq) % 4294967296 = x at hx hcb' ⊢
           obtain ⟨x0', x1'⟩ := hx
           obtain ⟨v, cv⟩ : ∃ v, y1.cell? ⟨O, i, none⟩ = some v := by
            obtain ⟨v, hv⟩ := fil8_some ((cb M B 16).take i) 64 i hlt17 (by omega)
            exact ⟨v, by rw [cell_of_row _ _ _ _ _ _ HD.out.out]; exact hv⟩
           have fv : y1.frozen? ⟨O, i, none⟩ = false := frozen_of_row y1 O i _ 142 HD.out.out
           have HN : Box (Ro w (y1.setCell ⟨O, i, none⟩ (.int .u8 (x / 2 ^ (8 * r) % 256))) S R G V O B M ((cb M B 16).take (i + 1))) := ⟨by rw [hcb']; exact HD.out.put (by omega) (by omega) (by omega) (by omega) i hlen hlt17 _⟩
           have s1 : IntKind.u64.wrap (8 * (r : Int)) = 8 * (r : Int) := by rw [IntKind.wrap_u64]; omega
           clear HD hcb' hlen e4 hq m0 m1 b0 b1 hMl HKP o1 o2 o3 v3
           go_wp2
           go_roundw
           case rel => exact ⟨i + 1, by omega, by go_num, HN⟩
           case measure => simp [intOf]; omega
          ·obtain rfl : i = 64 := by omega
           rw [List.take_of_length_le (by rw [length_cb]; omega), <- HFb.out] at HO
           obtain ⟨X, HX⟩ := named (blk K c N)
           have hXl : X.length = 64 := by rw [<- HX.out]; exact length_blk K c N
           rw [HX.out] at HO
           have hsz : (u8s X).size = 64 := by rw [size_u8s, hXl]
           have hall := all_u8s X
           have HWo := HO.out.out
           rw [fil8_full X 64 hXl] at HWo
           have HF : Box (wr.heap[O]? = some (.cells (u8s X) 142 (0, 0)) /\ wr.heap[R]? = some (.cells (fil8 [] 64) 142 (0, 0)) /\ Below S w wr) := ⟨HWo, HO.out.res, HO.out.bel⟩
           clear HWo HO
           go_wp2_with (first | (refine wpList_load_row rfl 142 _ rfl O rfl 142 (u8s X) (0, 0) _ HF.out.1 Tryd.underlying142 rfl (by rw [hsz]; kernel_rfl) ?_) | (refine wpList_store_row rfl 142 _ _ rfl R (u8s X) rfl rfl 142 (fil8 [] 64) HF.out.2.1 (by rw [hsz]; kernel_rfl) (by rw [hsz]; rfl) hall ?_))
           (try simp only [Exit.inBlock, Exit.then])
           refine bodyPost_ret (results_cell_row (p := 6) (ty := 142) rfl _ _ R 142 (u8s X) (0, 0) _ rfl (setRow_heap _ _ _ _ _ _ HF.out.2.1) Tryd.underlying142 rfl (by rw [hsz]; kernel_rfl)) rfl ?_
           exact ⟨by rw [HX.out], by rw [HS.out]; exact below_setRow HF.out.2.2 n6 _⟩
end Go.Proofs.YthfobaeafapbnaaDoor.Seal
