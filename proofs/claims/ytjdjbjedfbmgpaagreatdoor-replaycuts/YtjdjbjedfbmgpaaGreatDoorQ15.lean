/-
 What the Go functions begun and Crypt of package cipher answer, for every key, counter, nonce and all bytes. And what follows it.
-/
import Derived.Test.YtjdjbjedfbmgpaaGreatDoorQ14
import Derived.Laws.BytesArg
import Derived.Deep.OwnRows
import Derived.Laws.IdiomStrings
import Derived.Laws.Strings2
import Derived.Maps.AppendAt
import Derived.OpenShut
import Derived.Deep.Cut
import Derived.Test.YtjdjbjedfbmgpaaGreatDoorQ01
set_option linter.unusedVariables false
set_option maxRecDepth 100000
set_option maxRecDepth 100000
namespace Go.Proofs.YtjdjbjedfbmgpaaGreatDoor.Seal.Plain
end Go.Proofs.YtjdjbjedfbmgpaaGreatDoor.Seal.Plain
namespace Go.Proofs.YtjdjbjedfbmgpaaGreatDoor.Seal
open Go.RowKit Go.Proofs.YtjdjbjedfbmgpaaGreatDoor.Plain Go.Proofs.YtjdjbjedfbmgpaaGreatDoor.Seal.Plain
set_option maxHeartbeats 400000 in
theorem begun_any (a : Option Addr) (len cap : Nat) (w : World) (hl : len <= 1000000) :
  Calls Tryz.prog 130 #[.slice a len cap] w fun e w' => e = .returned (.int .u64 ((len + 63) / 64 : Nat)) /\ w = w' := by
 have e1 : IntKind.u64.wrap ((len : Int) / 64) = (len : Int) / 64 := by rw [IntKind.wrap_u64]; omega
 by_cases h : len % 64 = 0
 ·have h1 : (len : Int) % 64 = 0 := by omega
  have HE : Box ((((len + 63) / 64 : Nat) : Int) = (len : Int) / 64) := ⟨by omega⟩
  go_enter Tryz.func130, Tryz.ntmps130
  go_wp2
  go_ret
  exact ⟨by rw [HE.out]; first | rfl | rw [e1], rfl⟩
 ·have h1 : ¬ (len : Int) % 64 = 0 := by omega
  have HE : Box ((((len + 63) / 64 : Nat) : Int) = (len : Int) / 64 + 1) := ⟨by omega⟩
  go_enter Tryz.func130, Tryz.ntmps130
  go_wp2
  go_ret
  exact ⟨by rw [HE.out]; first | rfl | rw [e1], rfl⟩
structure Cy (w wr : World) (S T O G len : Nat) (K N X Y : List Int) : Prop where
 key : wr.heap[S]? = some (.cells (u8s K) 23 (0, 0))
 non : wr.heap[T]? = some (.cells (u8s N) 157 (0, 0))
 out : wr.heap[O]? = some (.cells (fil8 X len) 5 (0, 0))
 stm : wr.heap[G]? = some (.cells (u8s Y) 180 (0, 0))
 len64 : Y.length = 64
 bel : Below S w wr
theorem Cy.on {w wr wx : World} {S T O G len : Nat} {K N X Y : List Int} (h : Cy w wr S T O G len K N X Y) (hb : Below wr.heap.size wr wx) : Cy w wx S T O G len K N X Y := by
 have l1 := (Array.getElem?_eq_some_iff.1 h.key).1
 have l2 := (Array.getElem?_eq_some_iff.1 h.non).1
 have l3 := (Array.getElem?_eq_some_iff.1 h.out).1
 have l4 := (Array.getElem?_eq_some_iff.1 h.stm).1
 exact ⟨(hb.block _ l1).trans h.key, (hb.block _ l2).trans h.non, (hb.block _ l3).trans h.out, (hb.block _ l4).trans h.stm, h.len64, h.bel.trans (hb.mono (by omega))⟩
theorem Cy.put {w wr : World} {S T O G len : Nat} {K N X Y : List Int} (h : Cy w wr S T O G len K N X Y) (n1 : S ≠ O) (n2 : T ≠ O) (n3 : G ≠ O) (n4 : S <= O) (i : Nat) (hi : X.length = i) (hX : i < len) (v : Int) : Cy w (wr.setCell ⟨O, i, none⟩ (.int .u8 v)) S T O G len K N (X ++ [v]) Y := by
 subst hi
 exact ⟨by rw [heap_setCell_other wr ⟨O, X.length, none⟩ S _ n1]; exact h.key, by rw [heap_setCell_other wr ⟨O, X.length, none⟩ T _ n2]; exact h.non,
  by rw [heap_setCell_same wr O X.length _ 5 _ h.out, fil8_set X len v hX], by rw [heap_setCell_other wr ⟨O, X.length, none⟩ G _ n3]; exact h.stm, h.len64, below_set h.bel n4 _⟩
theorem Cy.lay {w wr : World} {S T O G len : Nat} {K N X Y : List Int} (h : Cy w wr S T O G len K N X Y) (n1 : S ≠ G) (n2 : T ≠ G) (n3 : O ≠ G) (n4 : S <= G) (Y' : List Int) (hY : Y'.length = 64) : Cy w (wr.setRow G (u8s Y')) S T O G len K N X Y' :=
 ⟨by rw [setRow_other _ _ _ _ n1]; exact h.key, by rw [setRow_other _ _ _ _ n2]; exact h.non, by rw [setRow_other _ _ _ _ n3]; exact h.out, setRow_heap _ _ _ _ _ _ h.stm, hY, below_setRow h.bel n4 _⟩
theorem fil8_nil (n : Nat) : fil8 [] n = (List.replicate n (Value.int .u8 0)).toArray := by simp [fil8, u8s]
set_option maxRecDepth 20000 in
set_option maxHeartbeats 2000000 in
theorem crypt_ok (a : Option Addr) (len cap : Nat) (K N B : List Int) (c : Int) (w : World) (hK : Byt K) (hKl : K.length = 32) (hN : Byt N) (hNl : N.length = 12) (hc : W32 c) (hT : Tab w) (hB : Bytes w a len B) (hl : len <= 1000000) (h : c + ((len + 63) / 64 : Nat) <= 4294967296) :
  Calls Tryz.prog 115 #[.agg (u8s K), .int .u32 c, .agg (u8s N), .slice a len cap] w fun e w' => ∃ a', e = .returned (.tuple #[.slice a' len len, .int .i64 0]) /\ Bytes w' a' len (cr K c N B len) /\ Below w.heap.size w w' := by
 obtain ⟨i0, hi, hz0, hz1, hz2⟩ := info_parts Tryz.info5
 obtain ⟨h0, h1⟩ := hc
 have HBe := fun x => begun_any a len cap x hl
 have e1 : IntKind.u64.wrap c = c := by rw [IntKind.wrap_u64]; omega
 have hb : (len + 63) / 64 <= 1000000 := by omega
 have HI : Box (∀ i, i < len -> c + ((i / 64 : Nat) : Int) < 4294967296) := ⟨fun i hi => by
  have : i / 64 < (len + 63) / 64 := by omega
  omega⟩
 generalize (len + 63) / 64 = n at h HBe hb
 have e2 : IntKind.u64.wrap (c + (n : Int)) = c + (n : Int) := by rw [IntKind.wrap_u64]; omega
 have h' : ¬ 4294967296 < c + (n : Int) := by omega
 clear h
 obtain ⟨S, hS⟩ : ∃ S, w.heap.size = S := ⟨_, rfl⟩
 have HS : Hid (w.heap.size = S) := hS
 have HC : Box _ := ⟨HBe⟩
 have H0 : Box (((w.alloc (.cells (u8s K) 23)).alloc (.cells (u8s N) 157)).heap[S]? = some (.cells (u8s K) 23 (0, 0)) /\ ((w.alloc (.cells (u8s K) 23)).alloc (.cells (u8s N) 157)).heap[S + 1]? = some (.cells (u8s N) 157 (0, 0)) /\ Below S w ((w.alloc (.cells (u8s K) 23)).alloc (.cells (u8s N) 157))) :=
  ⟨al_old (al_at hS), al_at (by simp [hS]), by rw [<- hS]; exact ((Below.refl _ _).alloc (Nat.le_refl _) _).alloc (by simp) _⟩
 have HB : Box (∀ x, Below S w x -> Bytes x a len B /\ Tab x) := ⟨fun x hx => by rw [<- hS] at hx; exact ⟨hB.below hx, hT.below hx⟩⟩
 have HBk : Box (∀ x, Below S w x -> ∀ c', W32 c' -> Calls Tryz.prog 131 #[.agg (u8s K), .int .u32 c', .agg (u8s N)] x fun e w' => e = .returned (.agg (u8s (blk K c' N))) /\ Below x.heap.size x w') := ⟨fun x hx c' hc' => block_any K N c' x hK hKl hN hNl hc' (HB.out x hx).2⟩
 clear hS HBe hT hB
 go_enter Tryz.func115, Tryz.ntmps115
 go_upto_region 1 with fail
 rw [HS.out]
 generalize (w.alloc (.cells (u8s K) 23)).alloc _ = x0 at H0 ⊢
 go_wp2_with (first | (at_make; refine wpList_make_full _ rfl (.tmp 21) (.tmp 21) 57 rfl _ 5 i0 (.int .u8 0) 1 Tryz.underlying57 hi hz0 hz1 _ _ _ _ len rfl rfl rfl rfl (by rw [hz2]; omega) (by unfold maxLen; omega) (Nat.le_refl _) ?_; intro w1 hown hgrow; have HR := made_row hown; have hb1 := (Below.refl x0.heap.size x0).grown hgrow (Nat.le_refl _) (by simp); have H1 : Box (w1.heap[x0.heap.size]? = some (.cells (fil8 [] len) 5 (0, 0)) /\ Below x0.heap.size x0 w1) := ⟨by rw [fil8_nil]; exact HR, hb1⟩; clear hown hgrow HR hb1) | (go_at_call 130; refine (HC.out _).mono ?_; rintro e w' ⟨rfl, rfl⟩))
 have K1 : Box (Cy w (w1.alloc (.cells (fil8 [] 64) 180)) S (S + 1) x0.heap.size w1.heap.size len K N (cr K c N B 0) (List.replicate 64 0)) := ⟨al_old ((H1.out.2.block _ (Array.getElem?_eq_some_iff.1 H0.out.1).1).trans H0.out.1), al_old ((H1.out.2.block _ (Array.getElem?_eq_some_iff.1 H0.out.2.1).1).trans H0.out.2.1), al_old H1.out.1, al_at rfl, by simp, (H0.out.2.2.trans (H1.out.2.mono (by have := (Array.getElem?_eq_some_iff.1 H0.out.1).1; omega))).alloc (by have := (Array.getElem?_eq_some_iff.1 H0.out.1).1; have := H1.out.2.size; omega) _⟩
 have HNs : S + 1 < x0.heap.size /\ x0.heap.size < w1.heap.size := ⟨(Array.getElem?_eq_some_iff.1 H0.out.2.1).1, (Array.getElem?_eq_some_iff.1 H1.out.1).1⟩
 have z64 := z64e
 rw [z64] at K1
 generalize w1.alloc (.cells _ 180) = x2 at K1 ⊢
 generalize w1.heap.size = G at K1 HNs ⊢
 generalize x0.heap.size = O at K1 HNs ⊢
 obtain ⟨n1, n2⟩ := HNs
 clear H0 H1 HC z64
 go_loopw [25] (fun i wr => ∃ (k : Nat) (Y : List Int), k <= len /\ i = .int .i64 k /\ Box (Cy w wr S (S + 1) O G len K N (cr K c N B k) Y /\ (k % 64 ≠ 0 -> Y = blk K ((c + (k / 64 : Nat)) % 4294967296) N))) (fun i _ => len - (intOf i).toNat)
 case atStart => exact ⟨0, _, by omega, rfl, ⟨K1.out, by omega⟩⟩
 case round =>
  clear K1
  obtain ⟨i, Y, hik, rfl, HY⟩ := hrel
  by_cases hlt : i < len
  ·have HB1 := (HB.out wr HY.out.1.bel).1
   obtain ⟨bb, off, rfl, hbl, hc0⟩ := HB1.2.2 (by omega)
   have hz0' := HB1.2.1
   have HBB : Box (∀ x, Below S w x -> ∀ i, i < len -> x.cell? ⟨bb, off + i, none⟩ = some (.int .u8 (B.getD i 0))) := ⟨fun x hx i hi => by
    obtain ⟨b', off', he, _, hc'⟩ := (HB.out x hx).1.2.2 (by omega)
    simp only [Option.some.injEq, Addr.mk.injEq, and_true] at he
    obtain ⟨rfl, rfl⟩ := he
    exact hc' i hi⟩
   clear HB1 hc0 hbl
   have hz := hz0' i
   clear hz0'
   have hq := HI.out i hlt
   have HQ : Box ((i : Int) / 64 = ((i / 64 : Nat) : Int)) := ⟨by omega⟩
   have HR : Box ((i : Int) % 64 = ((i % 64 : Nat) : Int)) := ⟨by omega⟩
   have HST : Box (Plain.stm K c N i = (blk K ((c + (i / 64 : Nat)) % 4294967296) N).getD (i % 64) 0) := ⟨rfl⟩
   have HNX : Box (∀ Y : List Int, Y = blk K ((c + (i / 64 : Nat)) % 4294967296) N -> ((i + 1) % 64 ≠ 0 -> Y = blk K ((c + ((i + 1) / 64 : Nat)) % 4294967296) N)) := ⟨fun Y h h' => by rw [show (i + 1) / 64 = i / 64 by omega]; exact h⟩
   have c0 := HBB.out wr HY.out.1.bel i hlt
   obtain ⟨z, Hz⟩ : ∃ z, Box (B.getD i 0 = z) := ⟨_, ⟨rfl⟩⟩
   rw [Hz.out] at c0 hz
   clear HBB
   by_cases h64 : i % 64 = 0
   ·have hr0 : (i : Int) % 64 = 0 := by omega
    rw [h64] at HST
    generalize i / 64 = q at HQ hq HST HNX
    have hq' := HQ.out
    have e3 : IntKind.u32.wrap ((q : Nat) : Int) = q := by rw [IntKind.wrap_u32]; omega
    obtain ⟨Z, HZ⟩ := named (blk K ((c + (q : Int)) % 4294967296) N)
    have hZl : Z.length = 64 := by rw [<- HZ.out]; exact length_blk _ _ _
    have hZs : (u8s Z).size = 64 := by rw [size_u8s, hZl]
    have HZb : Box (0 <= Z.getD 0 0 /\ Z.getD 0 0 <= 255) := ⟨by rw [<- HZ.out]; exact byt_blk _ _ _ 0⟩
    have HBc : Box (∀ x, Below S w x -> Calls Tryz.prog 131 #[.agg (u8s K), .int .u32 (c + (q : Int)), .agg (u8s N)] x fun e w' => e = .returned (.agg (u8s Z)) /\ Below x.heap.size x w') := ⟨fun x hx => by
     have e4 : (c + (q : Int)) % 4294967296 = c + (q : Int) := Int.emod_eq_of_lt (by omega) (by omega)
     rw [<- HZ.out, e4]; exact HBk.out x hx _ ⟨by omega, by omega⟩⟩
    rw [HZ.out] at HST
    have HNZ : Box ((i + 1) % 64 ≠ 0 -> Z = blk K ((c + ((i + 1) / 64 : Nat)) % 4294967296) N) := ⟨HNX.out Z HZ.out.symm⟩
    clear HNX HZ h64 HR HQ
    go_upto_region 10 with (first
     | (refine wpList_store_row rfl 180 (.tmp 11) (.tmp 40) rfl G (u8s Z) rfl rfl 180 (u8s Y) H5.out.stm (by rw [hZs]; kernel_rfl) (by rw [hZs, size_u8s]; exact H5.out.len64) (all_u8s Z) ?_)
     | (go_at_call 131; refine (HBc.out _ HY.out.1.bel).mono ?_; rintro e w5 ⟨rfl, hb5⟩; have H5 : Box (Cy w w5 S (S + 1) O G len K N (cr K c N B i) Y) := ⟨HY.out.1.on hb5⟩; clear hb5)
     | (refine wpList_seeNon (S + 1) N hNl HY.out.1.non rfl (.tmp 6) rfl rfl ?_)
     | (refine wpList_seeKey S K hKl HY.out.1.key rfl (.tmp 4) rfl rfl ?_))
    have H6 : Box (Cy w (w5.setRow G (u8s Z)) S (S + 1) O G len K N (cr K c N B i) Z) := ⟨H5.out.lay (by omega) (by omega) (by omega) (by omega) Z hZl⟩
    generalize w5.setRow G (u8s Z) = w6 at H6 ⊢
    have cy := row_cell w6 G 0 Z _ _ H6.out.stm (by rw [H6.out.len64]; omega)
    obtain ⟨v, cv⟩ : ∃ v, w6.cell? ⟨O, i, none⟩ = some v := by
     obtain ⟨v, hv⟩ := fil8_some (cr K c N B i) len i hlt (by rw [length_cr]; omega)
     exact ⟨v, by rw [cell_of_row _ _ _ _ _ _ H6.out.out]; exact hv⟩
    have fv : w6.frozen? ⟨O, i, none⟩ = false := frozen_of_row w6 O i _ 5 H6.out.out
    have HM := H6.out.put (by omega) (by omega) (by omega) (by omega) i (length_cr K c N B i) hlt (xr z (Z.getD 0 0))
    have HM2 : Box (Cy w (w6.setCell ⟨O, i, none⟩ (.int .u8 (bits .xor .u8 z (Z.getD 0 0)))) S (S + 1) O G len K N (cr K c N B (i + 1)) Z) := ⟨by rw [cr, HST.out, Hz.out]; exact HM⟩
    clear HM
    generalize Z.getD 0 0 = y at cy HM2 HZb
    obtain ⟨y0, y1⟩ := HZb.out
    clear H5 H6 HBk HBc HB HY c0 Hz
    go_wp2
    go_roundw
    case rel => exact ⟨i + 1, Z, by omega, by go_num, ⟨HM2.out, HNZ.out⟩⟩
    case measure => simp [intOf]; omega
   ·have hr0 : ¬ (i : Int) % 64 = 0 := by omega
    have EY := HY.out.2 h64
    rw [<- EY] at HST
    have HNY : Box ((i + 1) % 64 ≠ 0 -> Y = blk K ((c + ((i + 1) / 64 : Nat)) % 4294967296) N) := ⟨HNX.out Y EY⟩
    have H6 : Box (Cy w wr S (S + 1) O G len K N (cr K c N B i) Y) := ⟨HY.out.1⟩
    have hyb : 0 <= Y.getD (i % 64) 0 /\ Y.getD (i % 64) 0 <= 255 := by rw [EY]; exact byt_blk _ _ _ _
    have hrl : i % 64 < 64 := by omega
    clear EY HNX HQ
    generalize i % 64 = r at HR HST hyb hrl h64
    have hr := HR.out
    have cy := row_cell wr G r Y _ _ H6.out.stm (by rw [H6.out.len64]; omega)
    obtain ⟨v, cv⟩ : ∃ v, wr.cell? ⟨O, i, none⟩ = some v := by
     obtain ⟨v, hv⟩ := fil8_some (cr K c N B i) len i hlt (by rw [length_cr]; omega)
     exact ⟨v, by rw [cell_of_row _ _ _ _ _ _ H6.out.out]; exact hv⟩
    have fv : wr.frozen? ⟨O, i, none⟩ = false := frozen_of_row wr O i _ 5 H6.out.out
    have HM := H6.out.put (by omega) (by omega) (by omega) (by omega) i (length_cr K c N B i) hlt (xr z (Y.getD r 0))
    have HM2 : Box (Cy w (wr.setCell ⟨O, i, none⟩ (.int .u8 (bits .xor .u8 z (Y.getD r 0)))) S (S + 1) O G len K N (cr K c N B (i + 1)) Y) := ⟨by rw [cr, HST.out, Hz.out]; exact HM⟩
    clear HM
    generalize Y.getD r 0 = y at cy HM2 hyb
    obtain ⟨y0, y1⟩ := hyb
    clear H6 HBk HB HY HR h64 Hz
    go_wp2
    go_roundw
    case rel => exact ⟨i + 1, Y, by omega, by go_num, ⟨HM2.out, HNY.out⟩⟩
    case measure => simp [intOf]; omega
  ·obtain rfl : i = len := by omega
   have hO := HY.out.1.out
   rw [fil8_full _ i (length_cr K c N B i)] at hO
   have hBy := bytes_of_row (byt_cr K c N B i) hO
   rw [length_cr] at hBy
   have HF : Box (Bytes wr (some ⟨O, 0, none⟩) i (cr K c N B i) /\ Below S w wr) := ⟨hBy, HY.out.1.bel⟩
   clear hO hBy HY HB HBk
   go_wp2
   go_ret2
   exact ⟨_, rfl, HF.out.1, by rw [HS.out]; exact HF.out.2⟩
end Go.Proofs.YtjdjbjedfbmgpaaGreatDoor.Seal
namespace Go.Proofs.YtjdjbjedfbmgpaaGreatDoor.Seal.Plain
end Go.Proofs.YtjdjbjedfbmgpaaGreatDoor.Seal.Plain
namespace Go.Proofs.YtjdjbjedfbmgpaaGreatDoor.Seal
open Go.RowKit Go.Proofs.YtjdjbjedfbmgpaaGreatDoor.Plain Go.Proofs.YtjdjbjedfbmgpaaGreatDoor.Seal.Plain
theorem xr_xr (x y : Int) (hx : 0 <= x /\ x <= 255) (hy : 0 <= y /\ y <= 255) : xr (xr x y) y = x := by
 obtain ⟨X, rfl⟩ := Int.eq_ofNat_of_zero_le hx.1
 obtain ⟨Y, rfl⟩ := Int.eq_ofNat_of_zero_le hy.1
 have h1 : X ^^^ Y < 2 ^ 8 := Nat.xor_lt_two_pow (by omega) (by omega)
 unfold xr
 rw [u8_xor_nat X Y (by omega) (by omega), u8_xor_nat _ Y (by omega) (by omega), Nat.xor_assoc, Nat.xor_self, Nat.xor_zero]
theorem stm_bd (K : List Int) (c : Int) (N : List Int) (i : Nat) : 0 <= stm K c N i /\ stm K c N i <= 255 := byt_blk _ _ _ _
theorem conv_zero (w : World) (a : Option Addr) (c : Nat) : (convert 57 9 (.slice a 0 c)).run Tryz.prog w = .ok (.string ByteArray.empty) w := by
 rw [run_convert_bytes_string w 57 9 5 a 0 c Tryz.underlying57 Tryz.underlying5 Tryz.underlying9]
 cases a with
 | none => simp [Conv.bytesToString]
 | some a =>
  rw [run_bytesToString w a 0 c [] (by simp [loadCells, loadCellsFrom])]
  rfl
theorem str_nil : strOfNums [] = ByteArray.empty := rfl
theorem conv_bytes {w : World} {a : Option Addr} {len : Nat} {L : List Int} (h : Bytes w a len L) (cap : Nat) : (convert 57 9 (.slice a len cap)).run Tryz.prog w = .ok (.string (strOfNums L)) w := by
 by_cases h0 : len = 0
 ·subst h0
  obtain rfl : L = [] := List.eq_nil_of_length_eq_zero h.1
  rw [str_nil]
  exact conv_zero w a cap
 ·obtain ⟨b, off, rfl, _, hc⟩ := h.2.2 (by omega)
  exact run_convert_bytes_arg w 57 5 Tryz.underlying57 Tryz.underlying5 b off len cap L h.1 hc 9 Tryz.underlying9
theorem wpList_new8 {ops : Array Oper} {rest : List Oper} {o : Oper} {a : Act} {v : World} {Q : Exit -> Act -> World -> Prop} (t : TypeId) (n : Nat) (ht : (Tryz.prog.info? t).map (·.size) = some n) (w : World) (X : List Int) (hX : X.length = n) (old : Array Value) (hold : old.size = n) (hgd : o.guard = none) (x y : Operand) (ho : o.op = .store t x y)
  (hx : a.eval x = .pointer (some ⟨w.heap.size, 0, none⟩)) (hy : a.eval y = .agg (u8s X)) (hv : v = w.alloc (.cells old t))
  (h : ∀ z, z.heap[w.heap.size]? = some (.cells (u8s X) t (0, 0)) -> Below w.heap.size w z -> wpList Tryz.prog ops Q rest (a.put o.dst undef) z) : wpList Tryz.prog ops Q (o :: rest) a v := by
 subst hv
 have hs : (u8s X).size = n := by rw [size_u8s, hX]
 exact wpList_store_row hgd t x y ho w.heap.size (u8s X) hx hy t old (al_at rfl) (by rw [hs]; exact ht) (by rw [hs]; exact hold) (all_u8s X)
  (h _ (setRow_heap _ _ _ _ _ _ (al_at rfl)) (below_setRow ((Below.refl _ _).alloc (Nat.le_refl _) _) (Nat.le_refl _) _))
theorem size64 : (Tryz.prog.info? 180).map (·.size) = some 64 := by kernel_rfl
theorem wpList_put64 {ops : Array Oper} {rest : List Oper} {o : Oper} {a : Act} {Q : Exit -> Act -> World -> Prop} (w : World) (X : List Int) (hX : X.length = 64) (hgd : o.guard = none) (x y : Operand) (ho : o.op = .store 180 x y)
  (hx : a.eval x = .pointer (some ⟨w.heap.size, 0, none⟩)) (hy : a.eval y = .agg (u8s X)) (old : Array Value) (hold : old.size = 64)
  (h : ∀ z, z.heap[w.heap.size]? = some (.cells (u8s X) 180 (0, 0)) -> Below w.heap.size w z -> wpList Tryz.prog ops Q rest (a.put o.dst undef) z) : wpList Tryz.prog ops Q (o :: rest) a (w.alloc (.cells old 180)) :=
 wpList_new8 180 64 size64 w X hX old hold hgd x y ho hx hy rfl h
theorem size32 : (Tryz.prog.info? 23).map (·.size) = some 32 := by kernel_rfl
theorem row_on {w z : World} {g : Nat} {o : Obj} (h : w.heap[g]? = some o) (hb : Below w.heap.size w z) : z.heap[g]? = some o := (hb.block _ (Array.getElem?_eq_some_iff.1 h).1).trans h
end Go.Proofs.YtjdjbjedfbmgpaaGreatDoor.Seal
namespace Go.Proofs.YtjdjbjedfbmgpaaGreatDoor.Seal.Plain
end Go.Proofs.YtjdjbjedfbmgpaaGreatDoor.Seal.Plain
namespace Go.Proofs.YtjdjbjedfbmgpaaGreatDoor.Seal
open Go.RowKit Go.Proofs.YtjdjbjedfbmgpaaGreatDoor.Plain Go.Proofs.YtjdjbjedfbmgpaaGreatDoor.Seal.Plain
theorem exec_load8 {o : Oper} {a : Act} {w' : World} (t : TypeId) (n : Nat) (hu : Tryz.prog.underlying t = some (.array n 5)) (ht : (Tryz.prog.info? t).map (·.size) = some n) (x : Operand) (ho : o.op = .load t x) (g : Nat) (hx : a.eval x = .pointer (some ⟨g, 0, none⟩)) (X : List Int) (hX : X.length = n) (hg : w'.heap[g]? = some (.cells (u8s X) t (0, 0))) :
  (execOp a.eval o).run Tryz.prog w' = .ok (.value (.agg (u8s X))) w' := by
 have hs : (u8s X).size = n := by rw [size_u8s, hX]
 unfold execOp
 simp only [ho, hx, Instr.loadAt, Instr.sureAddr, Sem.run_bind, Sem.run_pure, Result.andThen_ok, run_loadVar_row w' g t t (u8s X) (0, 0) _ hg hu rfl (by rw [hs]; exact ht)]
theorem str_size (L : List Int) : (strOfNums L).size = L.length := by
 show (strOfNums L).data.size = L.length
 simp [strOfNums]
theorem exec_slice {o : Oper} {a : Act} {w' : World} (t : TypeId) (x : Operand) (lo hi : Option Operand) (ho : o.op = .slice t x lo hi none) (r : Value) (h : (Instr.sliceAt t (a.eval x) (lo.map a.eval) (hi.map a.eval) none).run Tryz.prog w' = .ok r w') :
  (execOp a.eval o).run Tryz.prog w' = .ok (.value r) w' := by
 unfold execOp
 simp only [ho, Option.map_none, Sem.run_bind, Sem.run_pure, h, Result.andThen_ok]
theorem slice_lo (a : Option Addr) (len cap n : Nat) (hn : n <= len) (hc : len <= cap) : ∃ a', (∀ x, (Instr.sliceAt 57 (.slice a len cap) (some (.int .i64 (n : Int))) none none).run Tryz.prog x = .ok (.slice a' (len - n) (cap - n)) x) /\ ∀ x B, Bytes x a len B -> Bytes x a' (len - n) (B.drop n) := by
 refine ⟨if cap = n then a else a.map (·.add (n * 1)), fun x => ?_, fun x B hB => ?_⟩
 ·have hu : Tryz.prog.underlying 57 = some (.slice (Tryz.prog.elem 57)) := by kernel_rfl
  rw [run_sliceAt_slice (P := Tryz.prog) x 57 _ _ _ _ hu, run_slice_l (P := Tryz.prog) x 57 a len cap hu .i64 (n : Int) (by omega) (by omega)]
  have hs : (sizeOf (Tryz.prog.elem 57)).run Tryz.prog x = .ok 1 x := by kernel_rfl
  rw [hs, Result.andThen_ok, sliced]
  simp
 ·refine ⟨by rw [List.length_drop, hB.1], byt_drop B n hB.2.1, fun hp => ?_⟩
  obtain ⟨b, off, rfl, hlt, hcl⟩ := hB.2.2 (by omega)
  rw [if_neg (by omega)]
  refine ⟨b, off + n, by simp [Addr.add_mid], hlt, fun i hi => ?_⟩
  rw [Nat.add_assoc, hcl (n + i) (by omega)]
  simp [List.getD, List.getElem?_drop]
def Tw (w x : World) (S : Nat) (K N : List Int) : Prop := x.heap[S]? = some (.cells (u8s K) 23 (0, 0)) /\ x.heap[S + 1]? = some (.cells (u8s N) 157 (0, 0)) /\ Below w.heap.size w x
theorem Tw.on {w x y : World} {S : Nat} {K N : List Int} (h : Tw w x S K N) (hb : Below x.heap.size x y) : Tw w y S K N := ⟨row_on h.1 hb, row_on h.2.1 hb, below_to h.2.2 hb⟩
theorem exec_conv {o : Oper} {a : Act} {w' : World} {ad : Option Addr} {len cap : Nat} {L : List Int} (x : Operand) (ho : o.op = .convert 57 9 x) (hx : a.eval x = .slice ad len cap) (hB : Bytes w' ad len L) :
  (execOp a.eval o).run Tryz.prog w' = .ok (.value (.string (strOfNums L))) w' := by
 unfold execOp
 simp only [ho, hx, Sem.run_bind, Sem.run_pure, conv_bytes hB, Result.andThen_ok]
theorem run_append_none {w : World} {base n c : Nat} {v : Value} {xs : List Value} {ty : TypeId} (h : w.ownsRow base 5 1 v n xs) : (Builtin.append_ #[57, 57] ty #[v, .slice none 0 c]).run Tryz.prog w = .ok v w := by
 obtain ⟨i0, hi, hz0, hz1, hz2⟩ := info_parts Tryz.info5
 rcases h.2 with ⟨rfl, rfl⟩ | ⟨g, cap', cur, rfl, _, _, hle, _⟩
 ·simp [Builtin.append_, run_underlying Tryz.underlying57, sizeOf, typeInfo, hi, Builtin.lenOf, Builtin.firstCells]
 ·simp [Builtin.append_, run_underlying Tryz.underlying57, sizeOf, typeInfo, hi, Builtin.lenOf, Builtin.firstCells, hle, storeCells]
theorem wpList_app {ops : Array Oper} {rest : List Oper} {o : Oper} {act : Act} {w : World} {Q : Exit -> Act -> World -> Prop} (hgd : o.guard = none) (s x : Operand)
  (ho : o.op = .call { callee := .builtin .append, args := #[s, x], argTypes := #[57, 57] }) (base n m c : Nat) (v : Value) (A L : List Int) (a : Option Addr) (w0 : World)
  (hs : act.eval s = v) (hx : act.eval x = .slice a m c) (hown : w.ownsRow base 5 1 v n (A.map (Value.int .u8))) (hb : Bytes w a m L) (hl : n + m <= 140737488355328) (hbel : Below base w0 w) (hbase : base <= w.heap.size)
  (h : ∀ v' w', Box (w'.ownsRow base 5 1 v' (n + m) ((A ++ L).map (Value.int .u8)) /\ Below base w0 w' /\ base <= w'.heap.size) -> wpList Tryz.prog ops Q rest (act.put o.dst v') w') : wpList Tryz.prog ops Q (o :: rest) act w := by
 obtain ⟨i0, hi, hz0, hz1, hz2⟩ := info_parts Tryz.info5
 cases a with
 | none =>
  have hm : m = 0 := by
   by_cases hm : m = 0
   ·exact hm
   ·obtain ⟨_, _, he, _⟩ := hb.2.2 (by omega)
    cases he
  subst hm
  obtain rfl : L = [] := List.eq_nil_of_length_eq_zero hb.1
  refine wpList_plain hgd fun _ hK => ?_
  unfold Oper.wp execOp
  simp only [ho, resolve, invoke, builtin, Sem.run_bind, Sem.run_pure, Result.andThen_ok, List.map_toArray, List.map_cons, List.map_nil, hs, hx, run_append_none hown]
  exact hK _ _ (h v w ⟨by simpa using hown, hbel, hbase⟩)
 | some ad =>
  refine wpList_append_own w hgd s x 57 ho base 5 i0 (.int .u8 0) 1 1 Tryz.underlying57 hi hz0 hz1 hz2 rfl (by decide) v n _ hs hown ad m c (L.map (Value.int .u8)) hx (by simp [hb.1]) (hb.news) (ints_oneCell _ _) (by unfold maxLen; omega) (by omega) hbase ?_
  intro v' w' h1 h2 _
  have := h2.size
  exact h v' w' ⟨by rw [List.map_append]; exact h1, hbel.grown h2 hbase (own_block_le hown), by omega⟩
set_option maxHeartbeats 400000 in
theorem pad_ok (a : Option Addr) (len cap : Nat) (L : List Int) (n : Nat) (w : World) (hb : Bytes w a len L) (h1 : 1 <= n) (h2 : n <= 2147483648) :
  Calls Tryz.prog 97 #[.slice a len cap, .int .i64 n] w fun e w' => ∃ g, e = .returned (.slice (some ⟨g, 0, none⟩) n n) /\ Out w w' (some ⟨g, 0, none⟩) n n (padTo L n) := by
 obtain ⟨i0, hi, hz0, hz1, hz2⟩ := info_parts Tryz.info5
 have hlm : n <= maxLen := by unfold maxLen; omega
 have hLl := hb.1
 have hn1 : ¬ (n : Int) < 1 := by omega
 have hn2 : ¬ (2147483648 : Int) < (n : Int) := by omega
 go_enter Tryz.func97, Tryz.ntmps97
 go_wp2_with (first | (at_make; refine wpList_make_full _ rfl (.tmp 13) (.tmp 13) 57 rfl _ 5 i0 (.int .u8 0) 1 Tryz.underlying57 hi hz0 hz1 _ _ _ _ n rfl rfl rfl rfl (by rw [hz2]; omega) hlm (Nat.le_refl _) ?_; intro w1 hown hgrow; have HR := made_row hown; clear hown; have hbl := (Below.refl w.heap.size w).grown hgrow (Nat.le_refl _) (by simp); have hb1 := hb.below hbl) | (refine wpList_copy_splice rfl (.tmp 15) (.tmp 16) 57 57 rfl 5 Tryz.underlying57 size5 _ _ _ _ _ _ rfl rfl w.heap.size 0 _ 5 HR ((L.take n).map (Value.int .u8)) (length_cut L n len hLl) (fun h => ⟨rfl, hb1.src_take n (pos_cut L n len hLl h)⟩) (fit_cut L n) (ints_oneCell _ _) w.heap.size w hbl (Nat.le_refl _) ?_; intro w2 HG2 hB2))
 have HG := HG2.out
 rw [splice_pad L n] at HG
 clear HR hgrow HG2 hb1 hb
 go_ret
 exact ⟨_, rfl, Out.of_row (length_padTo L n) hlm (Nat.le_refl _) HG hB2⟩
theorem slice_mid (a : Option Addr) (len cap lo hi : Nat) (h1 : lo <= hi) (hn : hi <= len) (hc : len <= cap) : ∃ a', (∀ x, (Instr.sliceAt 57 (.slice a len cap) (some (.int .i64 (lo : Int))) (some (.int .i64 (hi : Int))) none).run Tryz.prog x = .ok (.slice a' (hi - lo) (cap - lo)) x) /\ ∀ x B, Bytes x a len B -> Bytes x a' (hi - lo) ((B.take hi).drop lo) := by
 refine ⟨if cap = lo then a else a.map (·.add (lo * 1)), fun x => ?_, fun x B hB => ?_⟩
 ·have hu : Tryz.prog.underlying 57 = some (.slice (Tryz.prog.elem 57)) := by kernel_rfl
  rw [run_sliceAt_slice (P := Tryz.prog) x 57 _ _ _ _ hu, run_slice_lh (P := Tryz.prog) x 57 a len cap hu .i64 .i64 (lo : Int) (hi : Int) (by omega) (by omega) (by omega)]
  have hs : (sizeOf (Tryz.prog.elem 57)).run Tryz.prog x = .ok 1 x := by kernel_rfl
  rw [hs, Result.andThen_ok, sliced]
  simp
 ·refine ⟨by rw [List.length_drop, List.length_take, hB.1]; omega, byt_drop _ lo (byt_take B hi hB.2.1), fun hp => ?_⟩
  obtain ⟨b, off, rfl, hlt, hcl⟩ := hB.2.2 (by omega)
  rw [if_neg (by omega)]
  refine ⟨b, off + lo, by simp [Addr.add_mid], hlt, fun i hi' => ?_⟩
  rw [Nat.add_assoc, hcl (lo + i) (by omega)]
  simp [List.getD, List.getElem?_drop, show lo + i < hi by omega]
theorem u8_back (z : Int) (h : 0 <= z /\ z <= 255) : ((UInt8.ofNat z.toNat).toNat : Int) = z := by simp; omega
theorem str_data (L : List Int) : (strOfNums L).data = (L.map fun n => UInt8.ofNat n.toNat).toArray := rfl
theorem conv_str (w : World) (L : List Int) (hL : Byt L) : ∃ c w', (convert 9 57 (.string (strOfNums L))).run Tryz.prog w = .ok (.slice (some ⟨w.heap.size, 0, none⟩) L.length c) w' /\ Bytes w' (some ⟨w.heap.size, 0, none⟩) L.length L /\ Below w.heap.size w w' := by
 have h := run_bytes_of_string (P := Tryz.prog) w 9 57 5 (strOfNums L) Tryz.underlying9 Tryz.underlying57 Tryz.underlying5
 rw [str_size] at h
 refine ⟨_, _, h, ⟨rfl, hL, fun hp => ⟨w.heap.size, 0, rfl, by simp, fun i hi => ?_⟩⟩, ((Below.refl _ _).drew).alloc (Nat.le_refl _) _⟩
 have ha : (w.drew.alloc (.cells (bytesRow (strOfNums L) (grownCap w L.length 0 5)) 5 ((bytesRow (strOfNums L) (grownCap w L.length 0 5)).size, (bytesRow (strOfNums L) (grownCap w L.length 0 5)).size + 1))).heap[w.heap.size]? = some (.cells (bytesRow (strOfNums L) (grownCap w L.length 0 5)) 5 ((bytesRow (strOfNums L) (grownCap w L.length 0 5)).size, (bytesRow (strOfNums L) (grownCap w L.length 0 5)).size + 1)) := al_at rfl
 rw [cell_of_row _ _ _ _ _ _ ha, Nat.zero_add]
 have hb := hL i
 have hg : L.getD i 0 = L[i] := by simp [List.getD, hi]
 rw [hg] at hb ⊢
 unfold bytesRow
 rw [Array.getElem?_append_left (by simp [str_data]; exact hi)]
 simp [str_data, hi]
 omega
theorem index_str (L : List Int) (hL : Byt L) (i : Nat) (hi : i < L.length) (w : World) : (Instr.index 9 (.string (strOfNums L)) (.int .i64 (i : Int))).run Tryz.prog w = .ok (.int .u8 (L.getD i 0)) w := by
 rw [run_index_string w 9 _ .i64 (i : Int) Tryz.underlying9, dif_pos ⟨by omega, by rw [str_size]; omega⟩]
 have hb := hL i
 have hg : L.getD i 0 = L[i] := by simp [List.getD, hi]
 rw [hg] at hb ⊢
 have e : ((strOfNums L)[(i : Int).toNat]'(by rw [str_size]; omega)) = UInt8.ofNat (L[i]).toNat := by
  simp only [Int.toNat_natCast]
  show (strOfNums L).data[i]'_ = _
  simp [str_data]
 rw [e, u8_back _ hb]
theorem slice_str (L : List Int) (lo hi : Nat) (h1 : lo <= hi) (h2 : hi <= L.length) (w : World) : (Instr.sliceAt 9 (.string (strOfNums L)) (some (.int .i64 (lo : Int))) (some (.int .i64 (hi : Int))) none).run Tryz.prog w = .ok (.string (strOfNums ((L.take hi).drop lo))) w := by
 rw [run_sliceAt_string w 9 _ _ _ _ Tryz.underlying9, run_slice_string w 9 _ .i64 .i64 _ _ Tryz.underlying9 (by omega) (by omega) (by rw [str_size]; omega)]
 have e : (strOfNums L).extract (lo : Int).toNat (hi : Int).toNat = strOfNums ((L.take hi).drop lo) := by
  simp only [Int.toNat_natCast]
  have := ByteArray.extract_mk (L.map fun n => UInt8.ofNat n.toNat) lo hi
  unfold strOfNums
  rw [this]
  simp [List.drop_take]
 rw [e]
end Go.Proofs.YtjdjbjedfbmgpaaGreatDoor.Seal
namespace Go.Proofs.YtjdjbjedfbmgpaaGreatDoor.Seal.Plain
end Go.Proofs.YtjdjbjedfbmgpaaGreatDoor.Seal.Plain
namespace Go.Proofs.YtjdjbjedfbmgpaaGreatDoor.Seal
open Go.RowKit Go.Proofs.YtjdjbjedfbmgpaaGreatDoor.Plain Go.Proofs.YtjdjbjedfbmgpaaGreatDoor.Seal.Plain
theorem sfits_yes (n : Int) (w : World) (h : n = 160 ∨ n = 176) : Calls Tryz.prog 95 #[.int .i64 n] w fun e w' => e = .returned (.bool true) /\ w = w' := by
 rcases h with rfl | rfl
 all_goals
  go_enter Tryz.func95, Tryz.ntmps95
  go_wp2
  go_ret
  exact ⟨rfl, rfl⟩
set_option maxRecDepth 20000 in
set_option maxHeartbeats 1000000 in
theorem scrypt_in (K X B : List Int) (p v : Int) (a : Option Addr) (len cap : Nat) (w : World) (hKl : K.length = 32)
  (C1 : Box (∀ x, Calls Tryz.prog 116 #[.int .u32 p, .int .u64 v] x fun e w' => e = .returned (.agg (u8s X)) /\ Below x.heap.size x w'))
  (C2 : Box (∀ x, Below w.heap.size w x -> Calls Tryz.prog 115 #[.agg (u8s K), .int .u32 0, .agg (u8s X), .slice a len cap] x fun e w' => ∃ a', e = .returned (.tuple #[.slice a' len len, .int .i64 0]) /\ Bytes w' a' len (cr K 0 X B len) /\ Below x.heap.size x w')) :
  Calls Tryz.prog 96 #[.agg (u8s K), .int .u32 p, .int .u64 v, .slice a len cap] w fun e w' => ∃ a', e = .returned (.slice a' len len) /\ Bytes w' a' len (cr K 0 X B len) /\ Below w.heap.size w w' := by
 obtain ⟨S, hS⟩ : ∃ S, w.heap.size = S := ⟨_, rfl⟩
 have HS : Hid (w.heap.size = S) := hS
 have H0 : Box ((w.alloc (.cells (u8s K) 23)).heap[S]? = some (.cells (u8s K) 23 (0, 0)) /\ Below w.heap.size w (w.alloc (.cells (u8s K) 23))) := ⟨al_at hS, (Below.refl _ _).alloc (Nat.le_refl _) _⟩
 clear hS
 go_enter Tryz.func96, Tryz.ntmps96
 go_upto_region 1 with fail
 rw [HS.out]
 generalize w.alloc (.cells (u8s K) 23) = x0 at H0 ⊢
 refine Seq.begin_any (by kernel_rfl) (fun wd hd => ?_)
 refine Seq.take_lx (i := 0) (v := .agg (u8s K)) rfl (fun w' hLat => exec_load8 23 32 Tryz.underlying23 size32 (.tmp 4) rfl S rfl K hKl (row_on (row_on H0.out.1 hd) hLat)) ?_
 try simp only [Act.put, pC, pD, pE, pF, pG]
 refine Seq.take_lx (i := 1) (v := ?_) rfl ?_ ?_
 rotate_left
 ·rintro w' -; go_simp <;> with_reducible rfl
 try simp only [Act.put, pC, pD, pE, pF, pG, pH]
 refine Seq.take_lx (i := 2) (v := ?_) rfl ?_ ?_
 rotate_left
 ·rintro w' -; go_simp <;> with_reducible rfl
 try simp only [Act.put, pC, pD, pE, pF, pG, pH]
 refine Seq.take_lx (i := 4) (v := ?_) rfl ?_ ?_
 rotate_left
 ·rintro w' -; go_simp <;> with_reducible rfl
 try simp only [Act.put, pC, pD, pE, pF, pG, pH]
 refine Seq.only_lat (i := 3) rfl (by kernel_rfl) (fun KK hK => ?_)
 rw [if_pos (by rfl)]
 go_simp
 refine Calls.mono (C1.out wd) ?_
 rintro e w2 ⟨rfl, hb2⟩
 have H2 : Box (Below w.heap.size w w2) := ⟨below_to (below_to H0.out.2 hd) hb2⟩
 refine hK.out _ _ hb2 ?_
 clear hb2
 clear hK KK
 try simp only [Act.put, pC, pD, pE, pF, pG, pH]
 refine Seq.only_lat (i := 5) rfl (by kernel_rfl) (fun KK hK => ?_)
 rw [if_pos (by rfl)]
 go_simp
 refine Calls.mono (C2.out w2 H2.out) ?_
 rintro e w3 ⟨a3, rfl, hB3, hb3⟩
 have H3 : Box (Bytes w3 a3 len (cr K 0 X B len) /\ Below w.heap.size w w3) := ⟨hB3, below_to H2.out hb3⟩
 refine hK.out _ _ hb3 ?_
 clear hb3 hB3
 clear hK KK
 try simp only [Act.put, pC, pD, pE, pF, pG, pH]
 refine Seq.take_lx (i := 6) (v := ?_) rfl ?_ ?_
 rotate_left
 ·rintro w' -; go_simp <;> with_reducible rfl
 try simp only [Act.put, pC, pD, pE, pF, pG, pH]
 refine Seq.take_lx (i := 7) (v := ?_) rfl ?_ ?_
 rotate_left
 ·rintro w' -; go_simp <;> with_reducible rfl
 try simp only [Act.put, pC, pD, pE, pF, pG, pH]
 refine Seq.take_lx (i := 8) (v := ?_) rfl ?_ ?_
 rotate_left
 ·rintro w' -; go_simp <;> with_reducible rfl
 try simp only [Act.put, pC, pD, pE, pF, pG, pH]
 refine Seq.take_lx (i := 9) (v := ?_) rfl ?_ ?_
 rotate_left
 ·rintro w' -; go_simp <;> with_reducible rfl
 try simp only [Act.put, pC, pD, pE, pF, pG, pH]
 refine Seq.take_lx (i := 10) (v := ?_) rfl ?_ ?_
 rotate_left
 ·rintro w' -; go_simp <;> with_reducible rfl
 try simp only [Act.put, pC, pD, pE, pF, pG, pH]
 refine wpAnyH_done (by kernel_rfl) ?_ _
 go_wp2
 go_ret
 exact ⟨a3, rfl, H3.out.1, H3.out.2⟩
theorem scrypt_any (K B : List Int) (p v : Int) (a : Option Addr) (len cap : Nat) (w : World) (hT : Tab w) (hKl : K.length = 32) (hKb : Byt K) (hp : W32 p) (hv : 0 <= v /\ v <= 18446744073709551615) (hB : Bytes w a len B) (hl : len <= 1000) :
  Calls Tryz.prog 96 #[.agg (u8s K), .int .u32 p, .int .u64 v, .slice a len cap] w fun e w' => ∃ a', e = .returned (.slice a' len len) /\ Bytes w' a' len (cr K 0 (non p v) B len) /\ Below w.heap.size w w' :=
 scrypt_in K (non p v) B p v a len cap w hKl ⟨fun x => nonce_any p v x hp hv⟩ ⟨fun x hx => crypt_ok a len cap K (non p v) B 0 x hKb hKl (byt_non p v) (length_non p v) ⟨by omega, by omega⟩ (hT.below hx) (hB.below hx) (by omega) (by omega)⟩
def sl (K : List Int) (p v : Int) (B : List Int) : List Int := padTo (bytesOf v 8 ++ cr K 0 (non p v) B B.length) 192
theorem length_sl (K : List Int) (p v : Int) (B : List Int) : (sl K p v B).length = 192 := length_padTo _ _
theorem byt_padTo (L : List Int) (n : Nat) (h : Byt L) : Byt (padTo L n) := byt_app _ _ (byt_take L n h) (byt_zeros _)
theorem byt_sl (K : List Int) (p v : Int) (B : List Int) : Byt (sl K p v B) := byt_padTo _ _ (byt_app _ _ (bytesOf_bd v 8) (byt_cr _ _ _ _ _))
theorem out_low {w0 w w' : World} {a : Option Addr} {n c : Nat} {L : List Int} (h : Out w w' a n c L) (hb : Below w0.heap.size w0 w) : Out w0 w' a n c L := by
 refine ⟨h.1, ⟨h.2.1.1, ?_⟩, hb.trans (h.2.2.mono hb.size)⟩
 rcases h.2.1.2 with h3 | ⟨g, cap', cur, h3, hb', r⟩
 ·exact .inl h3
 ·exact .inr ⟨g, cap', cur, h3, Nat.le_trans hb.size hb', r⟩
set_option maxRecDepth 20000 in
set_option maxHeartbeats 2000000 in
theorem seal_in (K C : List Int) (p v : Int) (a : Option Addr) (len cap : Nat) (w : World) (hKl : K.length = 32) (hC : Byt C) (hl : len <= 184) (hv0 : ¬ v = 0) (hv1 : ¬ v = 18446744073709551615) (hv : 0 <= v /\ v <= 18446744073709551615)
  (HF : Box (∀ x, Calls Tryz.prog 95 #[.int .i64 (len : Int)] x fun e w' => e = .returned (.bool true) /\ x = w'))
  (C1 : Box (∀ x, Below w.heap.size w x -> Calls Tryz.prog 96 #[.agg (u8s K), .int .u32 p, .int .u64 v, .slice a len cap] x fun e w' => ∃ a', e = .returned (.slice a' len len) /\ Bytes w' a' len C /\ Below x.heap.size x w')) :
  Calls Tryz.prog 74 #[.agg (u8s K), .int .u32 p, .int .u64 v, .slice a len cap] w fun e w' => ∃ g, e = .returned (.tuple #[.slice (some ⟨g, 0, none⟩) 192 192, .int .i64 0]) /\ Out w w' (some ⟨g, 0, none⟩) 192 192 (padTo (bytesOf v 8 ++ C) 192) := by
 obtain ⟨S, hS⟩ : ∃ S, w.heap.size = S := ⟨_, rfl⟩
 have HS : Hid (w.heap.size = S) := hS
 have H0 : Box ((w.alloc (.cells (u8s K) 23)).heap[S]? = some (.cells (u8s K) 23 (0, 0)) /\ Below w.heap.size w (w.alloc (.cells (u8s K) 23))) := ⟨al_at hS, (Below.refl _ _).alloc (Nat.le_refl _) _⟩
 have g0 : (v == 0) = false := by simpa using hv0
 have g1 : (v == 18446744073709551615) = false := by simpa using hv1
 have C2 : Box (∀ x, Calls Tryz.prog 63 #[.int .u64 v, .int .i64 8] x fun e w' => ∃ g, e = .returned (.slice (some ⟨g, 0, none⟩) 8 8) /\ Out x w' (some ⟨g, 0, none⟩) 8 8 (bytesOf v 8)) := ⟨fun x => put_ok v 8 x hv.1 hv.2 (by omega) (by omega)⟩
 have C3 : Box (∀ x a c, Bytes x a (8 + len) (bytesOf v 8 ++ C) -> Calls Tryz.prog 97 #[.slice a (8 + len) c, .int .i64 192] x fun e w' => ∃ g, e = .returned (.slice (some ⟨g, 0, none⟩) 192 192) /\ Out x w' (some ⟨g, 0, none⟩) 192 192 (padTo (bytesOf v 8 ++ C) 192)) := ⟨fun x a c hx => pad_ok a (8 + len) c _ 192 x hx (by omega) (by omega)⟩
 have HC : Box (Byt (bytesOf v 8 ++ C)) := ⟨byt_app _ _ (bytesOf_bd v 8) hC⟩
 clear hS hv hC hv0 hv1
 go_enter Tryz.func74, Tryz.ntmps74
 go_upto_region 1 with fail
 rw [HS.out]
 generalize w.alloc (.cells (u8s K) 23) = x0 at H0 ⊢
 go_wp2_with (first
  | (go_at_call 97; refine (C3.out w4 a4 c4 (own_bytes H4.out.1 HC.out)).mono ?_; rintro e w5 ⟨g5, rfl, ho⟩; have H5 : Box (Out w w5 (some ⟨g5, 0, none⟩) 192 192 (padTo (bytesOf v 8 ++ C) 192)) := ⟨out_low ho H4.out.2⟩; clear ho)
  | (refine wpList_app rfl (.tmp 27) (.tmp 28) rfl w2.heap.size 8 len len _ (bytesOf v 8) C a2 w2 rfl rfl H3.out.1 H3.out.2.1 (by omega) H3.out.2.2.1 H3.out.2.2.1.size ?_; intro v4 w4 HV; obtain ⟨a4, c4, hv4⟩ := own_form HV.out.1; subst hv4; have H4 : Box (w4.ownsRow w2.heap.size 5 1 (.slice a4 (8 + len) c4) (8 + len) ((bytesOf v 8 ++ C).map (Value.int .u8)) /\ Below w.heap.size w w4) := ⟨HV.out.1, H2.out.2.trans (HV.out.2.1.mono H2.out.2.size)⟩; clear HV)
  | (go_at_call 63; refine (C2.out w2).mono ?_; rintro e w3 ⟨g3, rfl, ho⟩; have H3 : Box (w3.ownsRow w2.heap.size 5 1 (.slice (some ⟨g3, 0, none⟩) 8 8) 8 ((bytesOf v 8).map (Value.int .u8)) /\ Bytes w3 a2 len C /\ Below w2.heap.size w2 w3 /\ Below w.heap.size w w3) := ⟨ho.2.1, H2.out.1.below ho.2.2, ho.2.2, below_to H2.out.2 ho.2.2⟩; clear ho)
  | (go_at_call 96; refine Calls.mono (C1.out x0 H0.out.2) ?_; rintro e w2 ⟨a2, rfl, hB, hb⟩; have H2 : Box (Bytes w2 a2 len C /\ Below w.heap.size w w2) := ⟨hB, below_to H0.out.2 hb⟩; clear hB hb)
  | (refine wpList_seeKey S K hKl H0.out.1 rfl (.tmp 4) rfl rfl ?_)
  | (go_at_call 95; refine (HF.out _).mono ?_; rintro e w' ⟨rfl, rfl⟩))
 go_ret2
 exact ⟨g5, rfl, H5.out⟩
theorem seal_ok (K B : List Int) (p v : Int) (a : Option Addr) (len cap : Nat) (w : World) (hT : Tab w) (hKl : K.length = 32) (hKb : Byt K) (hp : W32 p) (hv0 : ¬ v = 0) (hv1 : ¬ v = 18446744073709551615) (hv : 0 <= v /\ v <= 18446744073709551615) (hB : Bytes w a len B) (hl : len = 160 ∨ len = 176) :
  Calls Tryz.prog 74 #[.agg (u8s K), .int .u32 p, .int .u64 v, .slice a len cap] w fun e w' => ∃ g, e = .returned (.tuple #[.slice (some ⟨g, 0, none⟩) 192 192, .int .i64 0]) /\ Out w w' (some ⟨g, 0, none⟩) 192 192 (sl K p v B) := by
 unfold sl
 rw [hB.1]
 exact seal_in K _ p v a len cap w hKl (byt_cr _ _ _ _ _) (by omega) hv0 hv1 hv ⟨fun x => sfits_yes _ x (by omega)⟩ ⟨fun x hx => scrypt_any K B p v a len cap x (hT.below hx) hKl hKb hp hv (hB.below hx) (by omega)⟩
end Go.Proofs.YtjdjbjedfbmgpaaGreatDoor.Seal
