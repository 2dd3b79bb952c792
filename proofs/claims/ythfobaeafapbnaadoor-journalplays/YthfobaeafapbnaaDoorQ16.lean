/-
 ChaCha20 as plain reckoning on whole numbers, in the spelling of the walks; nothing of the program is said here. And what follows it.
-/
import Derived.Test.YthfobaeafapbnaaDoorQ00
import Derived.Test.YthfobaeafapbnaaDoorRows
import Derived.WalkKit
import Derived.WalkSpells
import Derived.WalkLawsBesides
import Derived.BigRegion
import Derived.Deep.RegionWith
import Derived.Deep.QuietTactic
import Derived.BigQuiet
import Derived.Deep.Cut
import Derived.Deep.CutRange
set_option linter.unusedVariables false
set_option maxRecDepth 100000
namespace Go.Proofs.YthfobaeafapbnaaDoor.Seal.Plain
open Go.Proofs.YthfobaeafapbnaaDoor.Plain Go.RowKit
def rotl (x : Int) (k : Nat) : Int := bits .or .u32 (x * 2 ^ k % 4294967296) (x / 2 ^ (32 - k))
theorem W32.rotl (x : Int) (k : Nat) : W32 (rotl x k) := W32.bits _ _ _
theorem and31 (n : Nat) (h' : n <= 31) : bits .and .u64 (n : Int) 31 = (n : Int) := by
 have key : ∀ n : Fin 32, bits .and .u64 (n.val : Int) 31 = (n.val : Int) := by decide +kernel
 exact key ⟨n, by omega⟩
def ad (L : List Int) (a b : Nat) : List Int := L.set a ((L.getD a 0 + L.getD b 0) % 4294967296)
def tn (L : List Int) (d a n : Nat) : List Int := L.set d (rotl (bits .xor .u32 (L.getD d 0) (L.getD a 0)) n)
theorem length_ad (L : List Int) (a b : Nat) : (ad L a b).length = L.length := by simp [ad]
theorem length_tn (L : List Int) (d a n : Nat) : (tn L d a n).length = L.length := by simp [tn]
theorem wrd_ad (L : List Int) (a b : Nat) (h : Wrd L) : Wrd (ad L a b) := wrd_set _ _ _ h (W32.wrap _)
theorem wrd_tn (L : List Int) (d a n : Nat) (h : Wrd L) : Wrd (tn L d a n) := wrd_set _ _ _ h (W32.rotl _ _)
def qr (L : List Int) (a b c d : Nat) : List Int := tn (ad (tn (ad (tn (ad (tn (ad L a b) d a 16) c d) b c 12) a b) d a 8) c d) b c 7
theorem length_qr (L : List Int) (a b c d : Nat) : (qr L a b c d).length = L.length := by simp [qr, length_ad, length_tn]
theorem wrd_qr (L : List Int) (a b c d : Nat) (h : Wrd L) : Wrd (qr L a b c d) := wrd_tn _ _ _ _ (wrd_ad _ _ _ (wrd_tn _ _ _ _ (wrd_ad _ _ _ (wrd_tn _ _ _ _ (wrd_ad _ _ _ (wrd_tn _ _ _ _ (wrd_ad _ _ _ h)))))))
def qt : List Int := [0, 4, 8, 12, 1, 5, 9, 13, 2, 6, 10, 14, 3, 7, 11, 15, 0, 5, 10, 15, 1, 6, 11, 12, 2, 7, 8, 13, 3, 4, 9, 14]
def qa (j i : Nat) : Nat := (qt.getD (4 * j + i) 0).toNat
theorem qa_lt (j i : Nat) (hj : j < 8) (hi : i < 4) : qa j i < 16 /\ qt.getD (4 * j + i) 0 = (qa j i : Int) := by
 have key : ∀ k : Fin 32, (qt.getD k.val 0).toNat < 16 /\ qt.getD k.val 0 = ((qt.getD k.val 0).toNat : Int) := by decide +kernel
 exact key ⟨4 * j + i, by omega⟩
def row (L : List Int) : Nat -> List Int
 | 0 => L
 | j + 1 => qr (row L j) (qa j 0) (qa j 1) (qa j 2) (qa j 3)
def rn (L : List Int) : Nat -> List Int
 | 0 => L
 | k + 1 => row (rn L k) 8
theorem length_row (L : List Int) (j : Nat) : (row L j).length = L.length := by
 induction j with
 | zero => rfl
 | succ j ih => rw [row, length_qr, ih]
theorem wrd_row (L : List Int) (j : Nat) (h : Wrd L) : Wrd (row L j) := by
 induction j with
 | zero => exact h
 | succ j ih => exact wrd_qr _ _ _ _ _ ih
theorem length_rn (L : List Int) (k : Nat) : (rn L k).length = L.length := by
 induction k with
 | zero => rfl
 | succ k ih => rw [rn, length_row, ih]
theorem wrd_rn (L : List Int) (k : Nat) (h : Wrd L) : Wrd (rn L k) := by
 induction k with
 | zero => exact h
 | succ k ih => exact wrd_row _ _ ih
def wds (B : List Int) : Nat -> List Int
 | 0 => []
 | k + 1 => wds B k ++ [num B (4 * k) 4]
theorem length_wds (B : List Int) (k : Nat) : (wds B k).length = k := by
 induction k with
 | zero => rfl
 | succ k ih => simp [wds, ih]
theorem W32.num (B : List Int) (p : Nat) (h : Byt B) : W32 (num B p 4) := num_bd B p h 4
theorem wrd_wds (B : List Int) (k : Nat) (h : Byt B) : Wrd (wds B k) := by
 induction k with
 | zero => exact wrd_nil
 | succ k ih => exact wrd_app _ _ ih (wrd_one _ (W32.num B _ h))
def four : List Int := [1634760805, 857760878, 2036477234, 1797285236]
def beg (K : List Int) (c : Int) (N : List Int) : List Int := four ++ wds K 8 ++ [c] ++ wds N 3
theorem length_beg (K : List Int) (c : Int) (N : List Int) : (beg K c N).length = 16 := by simp [beg, length_wds, four]
theorem wrd_four : Wrd four := by
 intro i
 by_cases h : i < 4
 ·have key : ∀ j : Fin 4, 0 <= four.getD j.val 0 /\ four.getD j.val 0 < 4294967296 := by decide +kernel
  exact key ⟨i, h⟩
 ·rw [getD_high0 _ _ (by show 4 <= i; omega)]; simp [W32]
theorem wrd_beg (K : List Int) (c : Int) (N : List Int) (hK : Byt K) (hc : W32 c) (hN : Byt N) : Wrd (beg K c N) :=
 wrd_app _ _ (wrd_app _ _ (wrd_app _ _ wrd_four (wrd_wds _ _ hK)) (wrd_one _ hc)) (wrd_wds _ _ hN)
def ow (X Y : List Int) (i : Nat) : Int := (X.getD i 0 + Y.getD i 0) % 4294967296
theorem W32.ow (X Y : List Int) (i : Nat) : W32 (ow X Y i) := W32.wrap _
def cb (X Y : List Int) : Nat -> List Int
 | 0 => []
 | i + 1 => cb X Y i ++ bytesOf (ow X Y i) 4
theorem length_cb (X Y : List Int) (i : Nat) : (cb X Y i).length = 4 * i := by
 induction i with
 | zero => rfl
 | succ i ih => simp [cb, ih, length_bytesOf]; omega
theorem byt_cb (X Y : List Int) (i : Nat) : Byt (cb X Y i) := by
 induction i with
 | zero => exact byt_nil
 | succ i ih => exact byt_app _ _ ih (bytesOf_bd _ _)
theorem cb_at (X Y : List Int) (n i : Nat) (h : i < 4 * n) : (cb X Y n).getD i 0 = byteAt (ow X Y (i / 4)) (i % 4) := by
 induction n with
 | zero => omega
 | succ n ih =>
  rw [cb, getD_app, length_cb]
  by_cases hi : i < 4 * n
  ·rw [if_pos hi, ih hi]
  ·rw [if_neg hi, bytesOf_get _ _ _ (by omega)]
   have e1 : i / 4 = n := by omega
   have e2 : i % 4 = i - 4 * n := by omega
   rw [e1, e2]
def blk (K : List Int) (c : Int) (N : List Int) : List Int := cb (rn (beg K c N) 10) (beg K c N) 16
theorem length_blk (K : List Int) (c : Int) (N : List Int) : (blk K c N).length = 64 := length_cb _ _ _
theorem byt_blk (K : List Int) (c : Int) (N : List Int) : Byt (blk K c N) := byt_cb _ _ _
def non (p v : Int) : List Int := bytesOf p 4 ++ bytesOf v 8
theorem length_non (p v : Int) : (non p v).length = 12 := by simp [non, length_bytesOf]
theorem byt_non (p v : Int) : Byt (non p v) := byt_app _ _ (bytesOf_bd _ _) (bytesOf_bd _ _)
def stm (K : List Int) (c : Int) (N : List Int) (i : Nat) : Int := (blk K ((c + (i / 64 : Nat)) % 4294967296) N).getD (i % 64) 0
def xr (x y : Int) : Int := bits .xor .u8 x y
theorem xr_bd (x b : Int) : 0 <= xr x b /\ xr x b <= 255 := by
 unfold xr bits
 rw [IntKind.wrap_u8]
 omega
def cr (K : List Int) (c : Int) (N B : List Int) : Nat -> List Int
 | 0 => []
 | i + 1 => cr K c N B i ++ [xr (B.getD i 0) (stm K c N i)]
theorem length_cr (K : List Int) (c : Int) (N B : List Int) (n : Nat) : (cr K c N B n).length = n := by
 induction n with
 | zero => rfl
 | succ n ih => simp [cr, ih]
theorem byt_cr (K : List Int) (c : Int) (N B : List Int) (n : Nat) : Byt (cr K c N B n) := by
 induction n with
 | zero => exact byt_nil
 | succ n ih => exact byt_app _ _ ih (byt_cons _ _ (xr_bd _ _) byt_nil)
end Go.Proofs.YthfobaeafapbnaaDoor.Seal.Plain
namespace Go.Proofs.YthfobaeafapbnaaDoor.Seal.Plain
end Go.Proofs.YthfobaeafapbnaaDoor.Seal.Plain
namespace Go.Proofs.YthfobaeafapbnaaDoor.Seal
open Go.RowKit Go.Proofs.YthfobaeafapbnaaDoor.Plain Go.Proofs.YthfobaeafapbnaaDoor.Seal.Plain
theorem rot_any (x : Int) (n : Nat) (w : World) (h : W32 x) (hn : 1 <= n) (hn' : n <= 31) :
  Calls Tryd.prog 89 #[.int .u32 x, .int .i64 n] w fun e w' => e = .returned (.int .u32 (rotl x n)) /\ w = w' := by
 obtain ⟨h0, h1⟩ := h
 have hb := and31 n hn'
 have HR : Hid (bits .or .u32 (x * 2 ^ n % 4294967296) (x / 2 ^ (32 - n)) = rotl x n) := by unfold rotl; rfl
 go_enter Tryd.func89, Tryd.ntmps89
 go_wp2
 go_ret
 exact ⟨by rw [<- HR.out]; rfl, rfl⟩
theorem left_any (x : Int) (n : Nat) (w : World) (h : W32 x) (hn : 1 <= n) (hn' : n <= 31) :
  Calls Tryd.prog 91 #[.int .u32 x, .int .u64 n] w fun e w' => e = .returned (.int .u32 (rotl x n)) /\ w = w' := by
 obtain ⟨h0, h1⟩ := h
 have HR : Hid (bits .or .u32 (x * 2 ^ n % 4294967296) (x / 2 ^ (32 - n)) = rotl x n) := by unfold rotl; rfl
 go_enter Tryd.func91, Tryd.ntmps91
 go_wp2
 go_ret
 exact ⟨by rw [<- HR.out]; rfl, rfl⟩
theorem left_k (x k : Int) (w : World) (h : W32 x) (hn : 1 <= k) (hn' : k <= 31) :
  Calls Tryd.prog 91 #[.int .u32 x, .int .u64 k] w fun e w' => e = .returned (.int .u32 (rotl x k.toNat)) /\ w = w' := by
 obtain ⟨n, rfl⟩ := Int.eq_ofNat_of_zero_le (by omega : 0 <= k)
 exact left_any x n w h (by omega) (by omega)
def Ws (w : World) (S : Nat) (L : List Int) : Prop := L.length = 16 /\ Wrd L /\ w.heap[S]? = some (.cells (u32s L) 170 (0, 0))
theorem Ws.cell {w : World} {S : Nat} {L : List Int} (h : Ws w S L) (i : Nat) (hi : i < 16) : w.cell? ⟨S, i, none⟩ = some (.int .u32 (L.getD i 0)) := u32_cell w S i L _ _ h.2.2 (by rw [h.1]; exact hi)
theorem Ws.frozen {w : World} {S : Nat} {L : List Int} (h : Ws w S L) (i : Nat) : w.frozen? ⟨S, i, none⟩ = false := frozen_of_row w S i _ 170 h.2.2
theorem Ws.set {w : World} {S : Nat} {L : List Int} (h : Ws w S L) (i : Nat) (v : Int) (hv : W32 v) : Ws (w.setCell ⟨S, i, none⟩ (.int .u32 v)) S (L.set i v) :=
 ⟨by simp [h.1], wrd_set _ _ _ h.2.1 hv, by rw [heap_setCell_same w S i _ 170 _ h.2.2, u32s_set]⟩
theorem Ws.drew {w : World} {S : Nat} {L : List Int} (h : Ws w S L) : Ws w.drew S L := h
theorem Ws.below {w w' : World} {S : Nat} {L : List Int} (h : Ws w S L) (hb : Below w.heap.size w w') : Ws w' S L :=
 ⟨h.1, h.2.1, (hb.block _ (Array.getElem?_eq_some_iff.1 h.2.2).1).trans h.2.2⟩
set_option maxHeartbeats 1000000 in
theorem turn_any (S d a n : Nat) (L : List Int) (w : World) (h : Ws w S L) (hd : d < 16) (ha : a < 16) (hn : 1 <= n) (hn' : n <= 31) :
  Calls Tryd.prog 95 #[.int .i64 d, .int .i64 a, .int .i64 n, .pointer (some ⟨S, 0, none⟩)] w fun e w' => e = .returned (.tuple #[]) /\ Ws w' S (tn L d a n) /\ But S w w' := by
 have c1 := h.cell d hd
 have c2 := h.cell a ha
 have f1 := h.frozen d
 have HN : Box (∀ x y : Int, L.getD d 0 = x -> L.getD a 0 = y -> Ws (w.drew.setCell ⟨S, d, none⟩ (.int .u32 (rotl (bits .xor .u32 x y) n))) S (tn L d a n) /\ But S w (w.drew.setCell ⟨S, d, none⟩ (.int .u32 (rotl (bits .xor .u32 x y) n)))) :=
  ⟨fun x y hx hy => by subst hx; subst hy; exact ⟨h.drew.set d _ (W32.rotl _ _), (But.refl S w).drew.setCell _ _⟩⟩
 obtain ⟨x, HX⟩ : ∃ x, Box (L.getD d 0 = x) := ⟨_, ⟨rfl⟩⟩
 obtain ⟨y, HY⟩ : ∃ x, Box (L.getD a 0 = x) := ⟨_, ⟨rfl⟩⟩
 rw [HX.out] at c1
 rw [HY.out] at c2
 have HF := HN.out x y HX.out HY.out
 have hxy : W32 (bits .xor .u32 x y) := W32.bits _ _ _
 have HG : Box _ := ⟨HF⟩
 clear HF HN h
 go_enter Tryd.func95, Tryd.ntmps95
 go_wp2
 go_region_with (go_at_call 89; refine (rot_any _ _ _ hxy hn hn').mono ?_; rintro e w' ⟨rfl, rfl⟩)
 all_goals (go_end0; exact ⟨rfl, HG.out⟩)
end Go.Proofs.YthfobaeafapbnaaDoor.Seal
namespace Go.Proofs.YthfobaeafapbnaaDoor.Seal.Plain
end Go.Proofs.YthfobaeafapbnaaDoor.Seal.Plain
namespace Go.Proofs.YthfobaeafapbnaaDoor.Seal
open Go.RowKit Go.Proofs.YthfobaeafapbnaaDoor.Plain Go.Proofs.YthfobaeafapbnaaDoor.Seal.Plain
def Qs (w wx : World) (S : Nat) (L : List Int) : Prop := Ws wx S L /\ wx.heap[S + 1]? = some (.cells (fil [] 16) 170 (0, 0)) /\ Below S w wx
theorem Qs.step {w wx : World} {S : Nat} {L : List Int} (h : Qs w wx S L) (i : Nat) (v : Int) (hv : W32 v) : Qs w (wx.drew.setCell ⟨S, i, none⟩ (.int .u32 v)) S (L.set i v) :=
 ⟨h.1.drew.set i v hv, by rw [heap_setCell_other wx.drew ⟨S, i, none⟩ (S + 1) _ (fun e => by simp at e)]; exact h.2.1, below_set (w' := wx.drew) ⟨h.2.2.os, h.2.2.tape, h.2.2.output, h.2.2.size, h.2.2.block⟩ (Nat.le_refl _) _⟩
set_option maxRecDepth 20000 in
set_option maxHeartbeats 4000000 in
theorem quarter_any (L : List Int) (a b c d : Nat) (w : World) (hL : L.length = 16) (hw : Wrd L) (ha : a < 16) (hb : b < 16) (hc : c < 16) (hd : d < 16) :
  Calls Tryd.prog 84 #[.agg (u32s L), .int .i64 a, .int .i64 b, .int .i64 c, .int .i64 d] w fun e w' => e = .returned (.agg (u32s (qr L a b c d))) /\ Below w.heap.size w w' := by
 obtain ⟨S, hS⟩ : ∃ S, w.heap.size = S := ⟨_, rfl⟩
 have HS : Hid (w.heap.size = S) := hS
 have z16 : (fil [] 16) = #[.int .u32 0, .int .u32 0, .int .u32 0, .int .u32 0, .int .u32 0, .int .u32 0, .int .u32 0, .int .u32 0, .int .u32 0, .int .u32 0, .int .u32 0, .int .u32 0, .int .u32 0, .int .u32 0, .int .u32 0, .int .u32 0] := rfl
 have Q0 : Box (Qs w ((w.alloc (.cells (u32s L) 170)).alloc (.cells (fil [] 16) 170)) S L) := ⟨⟨hL, hw, al_old (al_at hS)⟩, al_at (by simp [hS]), by rw [<- hS]; exact ((Below.refl _ _).alloc (Nat.le_refl _) _).alloc (by simp) _⟩
 rw [z16] at Q0
 clear hS z16 hw hL
 go_enter Tryd.func84, Tryd.ntmps84
 go_wp2
 rw [HS.out]
 generalize (w.alloc (.cells (u32s L) 170)).alloc _ = x0 at Q0 ⊢
 go_cut [] from 11 (fun wx => Box (Qs w wx S (ad L a b)))
 case first =>
  obtain ⟨x, HX⟩ : ∃ x, Box (L.getD a 0 = x) := ⟨_, ⟨rfl⟩⟩
  obtain ⟨y, HY⟩ : ∃ x, Box (L.getD b 0 = x) := ⟨_, ⟨rfl⟩⟩
  have c1 := Q0.out.1.cell a ha
  have c2 := Q0.out.1.cell b hb
  have f1 := Q0.out.1.frozen a
  have b1 := Q0.out.1.2.1 a
  have b2 := Q0.out.1.2.1 b
  rw [HX.out] at c1 b1
  rw [HY.out] at c2 b2
  obtain ⟨b3, b4⟩ := b1
  obtain ⟨b5, b6⟩ := b2
  have HN : Box (Qs w (x0.drew.setCell ⟨S, a, none⟩ (.int .u32 ((x + y) % 4294967296))) S (ad L a b)) := ⟨by have := Q0.out.step a _ (W32.wrap (x + y)); rw [ad, HX.out, HY.out]; exact this⟩
  go_region
  all_goals (go_wp2_with fail; go_meet; exact HN)
 case rest =>
 obtain ⟨L1, E1⟩ := named (ad L a b)
 rw [E1.out] at hcut
 have Q1 := hcut
 clear hcut Q0
 rename World => x1
 go_wp2_with fail
 go_cut [] from 20 (fun wx => Box (Qs w wx S (tn L1 d a 16)))
 case first =>
  obtain ⟨x, HX⟩ : ∃ x, Box (L1.getD d 0 = x) := ⟨_, ⟨rfl⟩⟩
  obtain ⟨y, HY⟩ : ∃ x, Box (L1.getD a 0 = x) := ⟨_, ⟨rfl⟩⟩
  have c1 := Q1.out.1.cell d hd
  have c2 := Q1.out.1.cell a ha
  have f1 := Q1.out.1.frozen d
  have b1 := Q1.out.1.2.1 d
  have b2 := Q1.out.1.2.1 a
  rw [HX.out] at c1 b1
  rw [HY.out] at c2 b2
  obtain ⟨b3, b4⟩ := b1
  obtain ⟨b5, b6⟩ := b2
  have HN : Box (Qs w (x1.drew.setCell ⟨S, d, none⟩ (.int .u32 (rotl (bits .xor .u32 x y) 16))) S (tn L1 d a 16)) := ⟨by have := Q1.out.step d _ (W32.rotl (bits .xor .u32 x y) 16); rw [tn, HX.out, HY.out]; exact this⟩
  have hxy : W32 (bits .xor .u32 x y) := W32.bits _ _ _
  go_region_with (go_at_call 91; refine (left_k _ _ _ hxy (by decide) (by decide)).mono ?_; rintro e w' ⟨rfl, rfl⟩)
  all_goals (go_wp2_with fail; go_meet; exact HN)
 case rest =>
 obtain ⟨L2, E2⟩ := named (tn L1 d a 16)
 rw [E2.out] at hcut
 have Q2 := hcut
 clear hcut Q1
 rename World => x2
 go_wp2_with fail
 go_cut [] from 30 (fun wx => Box (Qs w wx S (ad L2 c d)))
 case first =>
  obtain ⟨x, HX⟩ : ∃ x, Box (L2.getD c 0 = x) := ⟨_, ⟨rfl⟩⟩
  obtain ⟨y, HY⟩ : ∃ x, Box (L2.getD d 0 = x) := ⟨_, ⟨rfl⟩⟩
  have c1 := Q2.out.1.cell c hc
  have c2 := Q2.out.1.cell d hd
  have f1 := Q2.out.1.frozen c
  have b1 := Q2.out.1.2.1 c
  have b2 := Q2.out.1.2.1 d
  rw [HX.out] at c1 b1
  rw [HY.out] at c2 b2
  obtain ⟨b3, b4⟩ := b1
  obtain ⟨b5, b6⟩ := b2
  have HN : Box (Qs w (x2.drew.setCell ⟨S, c, none⟩ (.int .u32 ((x + y) % 4294967296))) S (ad L2 c d)) := ⟨by have := Q2.out.step c _ (W32.wrap (x + y)); rw [ad, HX.out, HY.out]; exact this⟩
  go_region
  all_goals (go_wp2_with fail; go_meet; exact HN)
 case rest =>
 obtain ⟨L3, E3⟩ := named (ad L2 c d)
 rw [E3.out] at hcut
 have Q3 := hcut
 clear hcut Q2
 rename World => x3
 go_wp2_with fail
 go_cut [] from 39 (fun wx => Box (Qs w wx S (tn L3 b c 12)))
 case first =>
  obtain ⟨x, HX⟩ : ∃ x, Box (L3.getD b 0 = x) := ⟨_, ⟨rfl⟩⟩
  obtain ⟨y, HY⟩ : ∃ x, Box (L3.getD c 0 = x) := ⟨_, ⟨rfl⟩⟩
  have c1 := Q3.out.1.cell b hb
  have c2 := Q3.out.1.cell c hc
  have f1 := Q3.out.1.frozen b
  have b1 := Q3.out.1.2.1 b
  have b2 := Q3.out.1.2.1 c
  rw [HX.out] at c1 b1
  rw [HY.out] at c2 b2
  obtain ⟨b3, b4⟩ := b1
  obtain ⟨b5, b6⟩ := b2
  have HN : Box (Qs w (x3.drew.setCell ⟨S, b, none⟩ (.int .u32 (rotl (bits .xor .u32 x y) 12))) S (tn L3 b c 12)) := ⟨by have := Q3.out.step b _ (W32.rotl (bits .xor .u32 x y) 12); rw [tn, HX.out, HY.out]; exact this⟩
  have hxy : W32 (bits .xor .u32 x y) := W32.bits _ _ _
  go_region_with (go_at_call 91; refine (left_k _ _ _ hxy (by decide) (by decide)).mono ?_; rintro e w' ⟨rfl, rfl⟩)
  all_goals (go_wp2_with fail; go_meet; exact HN)
 case rest =>
 obtain ⟨L4, E4⟩ := named (tn L3 b c 12)
 rw [E4.out] at hcut
 have Q4 := hcut
 clear hcut Q3
 rename World => x4
 go_wp2_with fail
 go_cut [] from 49 (fun wx => Box (Qs w wx S (ad L4 a b)))
 case first =>
  obtain ⟨x, HX⟩ : ∃ x, Box (L4.getD a 0 = x) := ⟨_, ⟨rfl⟩⟩
  obtain ⟨y, HY⟩ : ∃ x, Box (L4.getD b 0 = x) := ⟨_, ⟨rfl⟩⟩
  have c1 := Q4.out.1.cell a ha
  have c2 := Q4.out.1.cell b hb
  have f1 := Q4.out.1.frozen a
  have b1 := Q4.out.1.2.1 a
  have b2 := Q4.out.1.2.1 b
  rw [HX.out] at c1 b1
  rw [HY.out] at c2 b2
  obtain ⟨b3, b4⟩ := b1
  obtain ⟨b5, b6⟩ := b2
  have HN : Box (Qs w (x4.drew.setCell ⟨S, a, none⟩ (.int .u32 ((x + y) % 4294967296))) S (ad L4 a b)) := ⟨by have := Q4.out.step a _ (W32.wrap (x + y)); rw [ad, HX.out, HY.out]; exact this⟩
  go_region
  all_goals (go_wp2_with fail; go_meet; exact HN)
 case rest =>
 obtain ⟨L5, E5⟩ := named (ad L4 a b)
 rw [E5.out] at hcut
 have Q5 := hcut
 clear hcut Q4
 rename World => x5
 go_wp2_with fail
 go_cut [] from 58 (fun wx => Box (Qs w wx S (tn L5 d a 8)))
 case first =>
  obtain ⟨x, HX⟩ : ∃ x, Box (L5.getD d 0 = x) := ⟨_, ⟨rfl⟩⟩
  obtain ⟨y, HY⟩ : ∃ x, Box (L5.getD a 0 = x) := ⟨_, ⟨rfl⟩⟩
  have c1 := Q5.out.1.cell d hd
  have c2 := Q5.out.1.cell a ha
  have f1 := Q5.out.1.frozen d
  have b1 := Q5.out.1.2.1 d
  have b2 := Q5.out.1.2.1 a
  rw [HX.out] at c1 b1
  rw [HY.out] at c2 b2
  obtain ⟨b3, b4⟩ := b1
  obtain ⟨b5, b6⟩ := b2
  have HN : Box (Qs w (x5.drew.setCell ⟨S, d, none⟩ (.int .u32 (rotl (bits .xor .u32 x y) 8))) S (tn L5 d a 8)) := ⟨by have := Q5.out.step d _ (W32.rotl (bits .xor .u32 x y) 8); rw [tn, HX.out, HY.out]; exact this⟩
  have hxy : W32 (bits .xor .u32 x y) := W32.bits _ _ _
  go_region_with (go_at_call 91; refine (left_k _ _ _ hxy (by decide) (by decide)).mono ?_; rintro e w' ⟨rfl, rfl⟩)
  all_goals (go_wp2_with fail; go_meet; exact HN)
 case rest =>
 obtain ⟨L6, E6⟩ := named (tn L5 d a 8)
 rw [E6.out] at hcut
 have Q6 := hcut
 clear hcut Q5
 rename World => x6
 go_wp2_with fail
 go_cut [] from 68 (fun wx => Box (Qs w wx S (ad L6 c d)))
 case first =>
  obtain ⟨x, HX⟩ : ∃ x, Box (L6.getD c 0 = x) := ⟨_, ⟨rfl⟩⟩
  obtain ⟨y, HY⟩ : ∃ x, Box (L6.getD d 0 = x) := ⟨_, ⟨rfl⟩⟩
  have c1 := Q6.out.1.cell c hc
  have c2 := Q6.out.1.cell d hd
  have f1 := Q6.out.1.frozen c
  have b1 := Q6.out.1.2.1 c
  have b2 := Q6.out.1.2.1 d
  rw [HX.out] at c1 b1
  rw [HY.out] at c2 b2
  obtain ⟨b3, b4⟩ := b1
  obtain ⟨b5, b6⟩ := b2
  have HN : Box (Qs w (x6.drew.setCell ⟨S, c, none⟩ (.int .u32 ((x + y) % 4294967296))) S (ad L6 c d)) := ⟨by have := Q6.out.step c _ (W32.wrap (x + y)); rw [ad, HX.out, HY.out]; exact this⟩
  go_region
  all_goals (go_wp2_with fail; go_meet; exact HN)
 case rest =>
 obtain ⟨L7, E7⟩ := named (ad L6 c d)
 rw [E7.out] at hcut
 have Q7 := hcut
 clear hcut Q6
 rename World => x7
 go_wp2_with fail
 go_cut [] from 77 (fun wx => Box (Qs w wx S (tn L7 b c 7)))
 case first =>
  obtain ⟨x, HX⟩ : ∃ x, Box (L7.getD b 0 = x) := ⟨_, ⟨rfl⟩⟩
  obtain ⟨y, HY⟩ : ∃ x, Box (L7.getD c 0 = x) := ⟨_, ⟨rfl⟩⟩
  have c1 := Q7.out.1.cell b hb
  have c2 := Q7.out.1.cell c hc
  have f1 := Q7.out.1.frozen b
  have b1 := Q7.out.1.2.1 b
  have b2 := Q7.out.1.2.1 c
  rw [HX.out] at c1 b1
  rw [HY.out] at c2 b2
  obtain ⟨b3, b4⟩ := b1
  obtain ⟨b5, b6⟩ := b2
  have HN : Box (Qs w (x7.drew.setCell ⟨S, b, none⟩ (.int .u32 (rotl (bits .xor .u32 x y) 7))) S (tn L7 b c 7)) := ⟨by have := Q7.out.step b _ (W32.rotl (bits .xor .u32 x y) 7); rw [tn, HX.out, HY.out]; exact this⟩
  have hxy : W32 (bits .xor .u32 x y) := W32.bits _ _ _
  go_region_with (go_at_call 91; refine (left_k _ _ _ hxy (by decide) (by decide)).mono ?_; rintro e w' ⟨rfl, rfl⟩)
  all_goals (go_wp2_with fail; go_meet; exact HN)
 case rest =>
 obtain ⟨L8, E8⟩ := named (tn L7 b c 7)
 rw [E8.out] at hcut
 have Q8 := hcut
 clear hcut Q7
 rename World => x8
 have HE : Box (qr L a b c d = L8) := ⟨by rw [qr, E1.out, E2.out, E3.out, E4.out, E5.out, E6.out, E7.out, E8.out]⟩
 clear E1 E2 E3 E4 E5 E6 E7 E8
 have hsz : (u32s L8).size = 16 := by rw [size_u32s, Q8.out.1.1]
 have hall := all_u32s L8
 go_wp2_with (first | (refine wpList_load_row rfl 170 _ rfl S rfl 170 (u32s L8) (0, 0) _ Q8.out.1.2.2 Tryd.underlying170 rfl (by rw [hsz]; kernel_rfl) ?_) | (refine wpList_store_row rfl 170 _ _ rfl (S + 1) (u32s L8) rfl rfl 170 (fil [] 16) Q8.out.2.1 (by rw [hsz]; kernel_rfl) (by rw [hsz]; rfl) hall ?_))
 (try simp only [Exit.inBlock, Exit.then])
 refine bodyPost_ret (results_cell_row (p := 10) (ty := 170) rfl _ _ (S + 1) 170 (u32s L8) (0, 0) _ rfl (setRow_heap _ _ _ _ _ _ Q8.out.2.1) Tryd.underlying170 rfl (by rw [hsz]; kernel_rfl)) rfl ?_
 exact ⟨by rw [HE.out], by rw [HS.out]; exact below_setRow Q8.out.2.2 (by omega) _⟩
end Go.Proofs.YthfobaeafapbnaaDoor.Seal
namespace Go.Proofs.YthfobaeafapbnaaDoor.Seal.Plain
end Go.Proofs.YthfobaeafapbnaaDoor.Seal.Plain
namespace Go.Proofs.YthfobaeafapbnaaDoor.Seal
open Go.RowKit Go.Proofs.YthfobaeafapbnaaDoor.Plain Go.Proofs.YthfobaeafapbnaaDoor.Seal.Plain
def Tab (w : World) : Prop := 2 < w.heap.size /\ ∀ i, i < 32 -> w.cell? ⟨2, i, none⟩ = some (.int .i64 (qt.getD i 0))
theorem Tab.below {w w' : World} (h : Tab w) (hb : Below w.heap.size w w') : Tab w' :=
 ⟨Nat.lt_of_lt_of_le h.1 hb.size, fun i hi => (hb.cell h.1).trans (h.2 i hi)⟩
theorem Tab.range {w : World} (h : Tab w) : w.rangeAt 2 0 (qt.map (Value.int .i64)) := by
 intro j v hj
 have hlt : j < qt.length := by simpa using (List.getElem?_eq_some_iff.1 hj).1
 rw [Nat.zero_add, h.2 j hlt, <- hj]
 simp [hlt]
theorem index53 (j : Nat) (hj : j < 8) (w : World) : (Instr.index 182 (.agg (qt.map (Value.int .i64)).toArray) (.int .i64 j)).run Tryd.prog w = .ok (.agg #[.int .i64 (qa j 0), .int .i64 (qa j 1), .int .i64 (qa j 2), .int .i64 (qa j 3)]) w := by
 have h : j = 0 ∨ j = 1 ∨ j = 2 ∨ j = 3 ∨ j = 4 ∨ j = 5 ∨ j = 6 ∨ j = 7 := by omega
 rcases h with rfl | rfl | rfl | rfl | rfl | rfl | rfl | rfl <;> rfl
theorem Qs.but {w wx wy : World} {S : Nat} {L L' : List Int} (h : Qs w wx S L) (h1 : Ws wy S L') (h2 : But S wx wy) : Qs w wy S L' := by
 have hl := (Array.getElem?_eq_some_iff.1 h.2.1).1
 exact ⟨h1, (h2.block _ hl (by omega)).trans h.2.1, h.2.2.trans (h2.below (Nat.le_refl _) (by omega))⟩
theorem Qs.on {w wx wy : World} {S : Nat} {L : List Int} (h : Qs w wx S L) (h2 : Below wx.heap.size wx wy) : Qs w wy S L := by
 have hl := (Array.getElem?_eq_some_iff.1 h.2.1).1
 exact ⟨h.1.below h2, (h2.block _ hl).trans h.2.1, h.2.2.trans (h2.mono (by omega))⟩
theorem Qs.drewN {w wx : World} {S : Nat} {L : List Int} (h : Qs w wx S L) (n : Nat) : Qs w (wx.drewN n) S L := ⟨h.1, h.2.1, h.2.2.os, h.2.2.tape, h.2.2.output, h.2.2.size, h.2.2.block⟩
theorem turn_k (S d a n : Nat) (k : Int) (hk : k = n) (L : List Int) (w : World) (h : Ws w S L) (hd : d < 16) (ha : a < 16) (hn : 1 <= n) (hn' : n <= 31) :
  Calls Tryd.prog 95 #[.int .i64 d, .int .i64 a, .int .i64 k, .pointer (some ⟨S, 0, none⟩)] w fun e w' => e = .returned (.tuple #[]) /\ Ws w' S (tn L d a n) /\ But S w w' := by
 subst hk; exact turn_any S d a n L w h hd ha hn hn'
set_option maxRecDepth 20000 in
set_option maxHeartbeats 4000000 in
theorem mixed_any (L : List Int) (w : World) (hL : L.length = 16) (hw : Wrd L) (hT : Tab w) :
  Calls Tryd.prog 93 #[.agg (u32s L)] w fun e w' => e = .returned (.agg (u32s (rn L 10))) /\ Below w.heap.size w w' := by
 obtain ⟨S, hS⟩ : ∃ S, w.heap.size = S := ⟨_, rfl⟩
 have HS : Hid (w.heap.size = S) := hS
 have z16 : (fil [] 16) = #[.int .u32 0, .int .u32 0, .int .u32 0, .int .u32 0, .int .u32 0, .int .u32 0, .int .u32 0, .int .u32 0, .int .u32 0, .int .u32 0, .int .u32 0, .int .u32 0, .int .u32 0, .int .u32 0, .int .u32 0, .int .u32 0] := rfl
 have Q0 : Box (Qs w ((w.alloc (.cells (u32s L) 170)).alloc (.cells (fil [] 16) 170)) S L) := ⟨⟨hL, hw, al_old (al_at hS)⟩, al_at (by simp [hS]), by rw [<- hS]; exact ((Below.refl _ _).alloc (Nat.le_refl _) _).alloc (by simp) _⟩
 rw [z16] at Q0
 have hmf : ∀ (fn : Fn) (first cap : Array Value) (w : World), (Instr.makeFunc fn first cap).run Tryd.prog w = .ok (.func fn first cap) w := fun _ _ _ _ => rfl
 have HT : Box (∀ wx L, Qs w wx S L -> wx.rangeAt 2 0 (qt.map (Value.int .i64))) := ⟨fun wx L h => (hT.below (by rw [HS.out]; exact h.2.2)).range⟩
 clear hS z16 hw hL hT
 go_enter Tryd.func93, Tryd.ntmps93
 go_wp2
 rw [HS.out]
 generalize (w.alloc (.cells (u32s L) 170)).alloc _ = x0 at Q0 ⊢
 clear hmf
 go_loopw [11] (fun i wr => ∃ k : Nat, k <= 10 /\ i = .int .i64 k /\ Box (Qs w wr S (rn L k))) (fun i _ => 10 - (intOf i).toNat)
 case atStart => exact ⟨0, by omega, rfl, Q0⟩
 case round =>
  clear Q0
  obtain ⟨k, hk, rfl, HQ⟩ := hrel
  by_cases hlt : k < 10
  ·obtain ⟨L0, E0⟩ := named (rn L k)
   rw [E0.out] at HQ
   go_wp2_with (refine wpList_load_mid rfl 182 (.global 2) rfl 2 0 rfl (qt.map (Value.int .i64)) _ (HT.out _ _ HQ.out) Tryd.underlying182 rfl (by kernel_rfl) ?_)
   go_loopw [14] (fun i wr => ∃ j : Nat, j <= 8 /\ i = .int .i64 j /\ Box (Qs w wr S (row L0 j))) (fun i _ => 8 - (intOf i).toNat)
   case atStart => exact ⟨0, by omega, rfl, HQ⟩
   case round =>
    clear HQ
    obtain ⟨j, hj, rfl, HQ⟩ := hrel
    by_cases hlt8 : j < 8
    ·have hidx := index53 j hlt8
     have HP : Box (qr (row L0 j) (qa j 0) (qa j 1) (qa j 2) (qa j 3) = row L0 (j + 1)) := ⟨rfl⟩
     obtain ⟨p, Hp⟩ : ∃ p, Box (qa j 0 = p) := ⟨_, ⟨rfl⟩⟩
     obtain ⟨q, Hq⟩ : ∃ p, Box (qa j 1 = p) := ⟨_, ⟨rfl⟩⟩
     obtain ⟨r, Hr⟩ : ∃ p, Box (qa j 2 = p) := ⟨_, ⟨rfl⟩⟩
     obtain ⟨s, Hs⟩ : ∃ p, Box (qa j 3 = p) := ⟨_, ⟨rfl⟩⟩
     have hp : p < 16 := by rw [<- Hp.out]; exact (qa_lt j 0 hlt8 (by omega)).1
     have hq : q < 16 := by rw [<- Hq.out]; exact (qa_lt j 1 hlt8 (by omega)).1
     have hr : r < 16 := by rw [<- Hr.out]; exact (qa_lt j 2 hlt8 (by omega)).1
     have hs : s < 16 := by rw [<- Hs.out]; exact (qa_lt j 3 hlt8 (by omega)).1
     rw [Hp.out, Hq.out, Hr.out, Hs.out] at HP hidx
     clear Hp Hq Hr Hs
     obtain ⟨M, HM⟩ := named (row L0 j)
     rw [HM.out] at HP HQ
     go_wp2
     have HX : Box (Qs w (wr.alloc (Obj.cells #[Value.int IntKind.i64 ↑p, Value.int IntKind.i64 ↑q, Value.int IntKind.i64 ↑r, Value.int IntKind.i64 ↑s] 181)) S M) := ⟨HQ.out.on ((Below.refl _ _).alloc (Nat.le_refl _) _)⟩
     have hG : (wr.alloc (Obj.cells #[Value.int IntKind.i64 ↑p, Value.int IntKind.i64 ↑q, Value.int IntKind.i64 ↑r, Value.int IntKind.i64 ↑s] 181)).heap[wr.heap.size]? = some (Obj.cells #[Value.int IntKind.i64 ↑p, Value.int IntKind.i64 ↑q, Value.int IntKind.i64 ↑r, Value.int IntKind.i64 ↑s] 181) := al_at rfl
     generalize wr.alloc (Obj.cells #[Value.int IntKind.i64 ↑p, Value.int IntKind.i64 ↑q, Value.int IntKind.i64 ↑r, Value.int IntKind.i64 ↑s] 181) = y1 at HX hG ⊢
     generalize wr.heap.size = G at hG ⊢
     clear HQ
     have c0 : y1.cell? ⟨G, 0, none⟩ = some (.int .i64 p) := by rw [cell_of_row _ _ _ _ _ _ hG]; rfl
     have c1 : y1.cell? ⟨G, 1, none⟩ = some (.int .i64 q) := by rw [cell_of_row _ _ _ _ _ _ hG]; rfl
     have c2 : y1.cell? ⟨G, 2, none⟩ = some (.int .i64 r) := by rw [cell_of_row _ _ _ _ _ _ hG]; rfl
     have c3 : y1.cell? ⟨G, 3, none⟩ = some (.int .i64 s) := by rw [cell_of_row _ _ _ _ _ _ hG]; rfl
     clear hG
     go_quiet (fail)
     have Q0 : Box (Qs w (y1.drewN nq) S M) := ⟨HX.out.drewN nq⟩
     clear c0 c1 c2 c3 HX
     generalize y1.drewN nq = x1 at Q0 ⊢
     clear nq y1
     go_wp2
     obtain ⟨x, HX⟩ : ∃ x, Box (M.getD p 0 = x) := ⟨_, ⟨rfl⟩⟩
     obtain ⟨y, HY⟩ : ∃ x, Box (M.getD q 0 = x) := ⟨_, ⟨rfl⟩⟩
     have c1 := Q0.out.1.cell p hp
     have c2 := Q0.out.1.cell q hq
     have f1 := Q0.out.1.frozen p
     have b1 := Q0.out.1.2.1 p
     have b2 := Q0.out.1.2.1 q
     rw [HX.out] at c1 b1
     rw [HY.out] at c2 b2
     obtain ⟨b3, b4⟩ := b1
     obtain ⟨b5, b6⟩ := b2
     have Q1 : Box (Qs w (x1.setCell ⟨S, p, none⟩ (.int .u32 ((x + y) % 4294967296))).drew S (ad M p q)) := ⟨by have := Q0.out.step p _ (W32.wrap (x + y)); rw [ad, HX.out, HY.out]; exact this⟩
     go_region
     generalize (x1.setCell ⟨S, p, none⟩ (.int .u32 ((x + y) % 4294967296))).drew = x2 at Q1 ⊢
     clear HX HY c1 c2 f1 b3 b4 b5 b6 Q0
     obtain ⟨M1, E1⟩ := named (ad M p q)
     rw [E1.out] at Q1
     go_wp2_with (go_at_call 95; refine (turn_k S s p 16 16 rfl M1 _ Q1.out.1 hs hp (by decide) (by decide)).mono ?_; rintro e x3 ⟨rfl, h1, h2⟩; have Q2 : Box (Qs w x3 S (tn M1 s p 16)) := ⟨Q1.out.but h1 h2⟩; clear h1 h2)
     clear Q1
     obtain ⟨M2, E2⟩ := named (tn M1 s p 16)
     rw [E2.out] at Q2
     obtain ⟨x, HX⟩ : ∃ x, Box (M2.getD r 0 = x) := ⟨_, ⟨rfl⟩⟩
     obtain ⟨y, HY⟩ : ∃ x, Box (M2.getD s 0 = x) := ⟨_, ⟨rfl⟩⟩
     have c1 := Q2.out.1.cell r hr
     have c2 := Q2.out.1.cell s hs
     have f1 := Q2.out.1.frozen r
     have b1 := Q2.out.1.2.1 r
     have b2 := Q2.out.1.2.1 s
     rw [HX.out] at c1 b1
     rw [HY.out] at c2 b2
     obtain ⟨b3, b4⟩ := b1
     obtain ⟨b5, b6⟩ := b2
     have Q3 : Box (Qs w (x3.setCell ⟨S, r, none⟩ (.int .u32 ((x + y) % 4294967296))).drew S (ad M2 r s)) := ⟨by have := Q2.out.step r _ (W32.wrap (x + y)); rw [ad, HX.out, HY.out]; exact this⟩
     go_region
     generalize (x3.setCell ⟨S, r, none⟩ (.int .u32 ((x + y) % 4294967296))).drew = x4 at Q3 ⊢
     clear HX HY c1 c2 f1 b3 b4 b5 b6 Q2
     obtain ⟨M3, E3⟩ := named (ad M2 r s)
     rw [E3.out] at Q3
     go_wp2_with (go_at_call 95; refine (turn_k S q r 12 12 rfl M3 _ Q3.out.1 hq hr (by decide) (by decide)).mono ?_; rintro e x5 ⟨rfl, h1, h2⟩; have Q4 : Box (Qs w x5 S (tn M3 q r 12)) := ⟨Q3.out.but h1 h2⟩; clear h1 h2)
     clear Q3
     obtain ⟨M4, E4⟩ := named (tn M3 q r 12)
     rw [E4.out] at Q4
     obtain ⟨x, HX⟩ : ∃ x, Box (M4.getD p 0 = x) := ⟨_, ⟨rfl⟩⟩
     obtain ⟨y, HY⟩ : ∃ x, Box (M4.getD q 0 = x) := ⟨_, ⟨rfl⟩⟩
     have c1 := Q4.out.1.cell p hp
     have c2 := Q4.out.1.cell q hq
     have f1 := Q4.out.1.frozen p
     have b1 := Q4.out.1.2.1 p
     have b2 := Q4.out.1.2.1 q
     rw [HX.out] at c1 b1
     rw [HY.out] at c2 b2
     obtain ⟨b3, b4⟩ := b1
     obtain ⟨b5, b6⟩ := b2
     have Q5 : Box (Qs w (x5.setCell ⟨S, p, none⟩ (.int .u32 ((x + y) % 4294967296))).drew S (ad M4 p q)) := ⟨by have := Q4.out.step p _ (W32.wrap (x + y)); rw [ad, HX.out, HY.out]; exact this⟩
     go_region
     generalize (x5.setCell ⟨S, p, none⟩ (.int .u32 ((x + y) % 4294967296))).drew = x6 at Q5 ⊢
     clear HX HY c1 c2 f1 b3 b4 b5 b6 Q4
     obtain ⟨M5, E5⟩ := named (ad M4 p q)
     rw [E5.out] at Q5
     go_wp2_with (go_at_call 95; refine (turn_k S s p 8 8 rfl M5 _ Q5.out.1 hs hp (by decide) (by decide)).mono ?_; rintro e x7 ⟨rfl, h1, h2⟩; have Q6 : Box (Qs w x7 S (tn M5 s p 8)) := ⟨Q5.out.but h1 h2⟩; clear h1 h2)
     clear Q5
     obtain ⟨M6, E6⟩ := named (tn M5 s p 8)
     rw [E6.out] at Q6
     obtain ⟨x, HX⟩ : ∃ x, Box (M6.getD r 0 = x) := ⟨_, ⟨rfl⟩⟩
     obtain ⟨y, HY⟩ : ∃ x, Box (M6.getD s 0 = x) := ⟨_, ⟨rfl⟩⟩
     have c1 := Q6.out.1.cell r hr
     have c2 := Q6.out.1.cell s hs
     have f1 := Q6.out.1.frozen r
     have b1 := Q6.out.1.2.1 r
     have b2 := Q6.out.1.2.1 s
     rw [HX.out] at c1 b1
     rw [HY.out] at c2 b2
     obtain ⟨b3, b4⟩ := b1
     obtain ⟨b5, b6⟩ := b2
     have Q7 : Box (Qs w (x7.setCell ⟨S, r, none⟩ (.int .u32 ((x + y) % 4294967296))).drew S (ad M6 r s)) := ⟨by have := Q6.out.step r _ (W32.wrap (x + y)); rw [ad, HX.out, HY.out]; exact this⟩
     go_region
     generalize (x7.setCell ⟨S, r, none⟩ (.int .u32 ((x + y) % 4294967296))).drew = x8 at Q7 ⊢
     clear HX HY c1 c2 f1 b3 b4 b5 b6 Q6
     obtain ⟨M7, E7⟩ := named (ad M6 r s)
     rw [E7.out] at Q7
     go_wp2_with (go_at_call 95; refine (turn_k S q r 7 7 rfl M7 _ Q7.out.1 hq hr (by decide) (by decide)).mono ?_; rintro e x9 ⟨rfl, h1, h2⟩; have Q8 : Box (Qs w x9 S (tn M7 q r 7)) := ⟨Q7.out.but h1 h2⟩; clear h1 h2)
     go_roundw
     case rel => exact ⟨j + 1, by omega, by go_num, ⟨by rw [<- HP.out, qr, E1.out, E2.out, E3.out, E4.out, E5.out, E6.out, E7.out]; exact Q8.out⟩⟩
     case measure => simp [intOf]; omega
    ·obtain rfl : j = 8 := by omega
     have HE : Box (row L0 8 = rn L (k + 1)) := ⟨by rw [rn, E0.out]⟩
     rw [HE.out] at HQ
     go_wp2
     go_roundw
     case rel => exact ⟨k + 1, by omega, by go_num, HQ⟩
     case measure => simp [intOf]; omega
  ·obtain rfl : k = 10 := by omega
   obtain ⟨L8, E8⟩ := named (rn L 10)
   rw [E8.out] at HQ
   have hsz : (u32s L8).size = 16 := by rw [size_u32s, HQ.out.1.1]
   have hall := all_u32s L8
   go_wp2_with (first | (refine wpList_load_row rfl 170 _ rfl S rfl 170 (u32s L8) (0, 0) _ HQ.out.1.2.2 Tryd.underlying170 rfl (by rw [hsz]; kernel_rfl) ?_) | (refine wpList_store_row rfl 170 _ _ rfl (S + 1) (u32s L8) rfl rfl 170 (fil [] 16) HQ.out.2.1 (by rw [hsz]; kernel_rfl) (by rw [hsz]; rfl) hall ?_))
   (try simp only [Exit.inBlock, Exit.then])
   refine bodyPost_ret (results_cell_row (p := 2) (ty := 170) rfl _ _ (S + 1) 170 (u32s L8) (0, 0) _ rfl (setRow_heap _ _ _ _ _ _ HQ.out.2.1) Tryd.underlying170 rfl (by rw [hsz]; kernel_rfl)) rfl ?_
   exact ⟨by rw [E8.out], by rw [HS.out]; exact below_setRow HQ.out.2.2 (by omega) _⟩
end Go.Proofs.YthfobaeafapbnaaDoor.Seal
