/-
 SHA-256 as plain reckoning on whole numbers, in the spelling of the walks; nothing of the program is said here. And what follows it.
-/
import Derived.Laws.CopyOwn
import Derived.WalkKit
import Derived.Laws.BitsAllLaws
import Derived.Test.YthfobaeafapbnaaDoorRows
import Derived.WalkSpells
import Derived.WalkLawsBesides
import Derived.BigRegion
import Derived.Deep.QuietTactic
import Derived.BigQuiet
import Derived.Deep.MidRow
set_option linter.unusedVariables false
set_option maxRecDepth 100000
namespace Go.Proofs.YthfobaeafapbnaaDoor.Dig.Plain
open Go.RowKit
def W32 (x : Int) : Prop := 0 <= x /\ x < 4294967296
theorem W32.wrap (x : Int) : W32 (x % 4294967296) := by unfold W32; omega
def rotr (x k : Int) : Int := bits .or .u32 (x / 2 ^ k.toNat) (x * 2 ^ (32 - k.toNat) % 4294967296)
theorem bits_or_comm (k : IntKind) (x y : Int) : bits .or k x y = bits .or k y x := by
 unfold bits
 simp only [BitVec.or_comm]
theorem and31 (n : Nat) (h : 1 <= n) (h' : n <= 31) : bits .and .u64 (IntKind.u64.wrap (-(n : Int))) 31 = 32 - (n : Int) := by
 have key : ∀ n : Fin 32, 1 <= n.val -> bits .and .u64 (IntKind.u64.wrap (-(n.val : Int))) 31 = 32 - (n.val : Int) := by decide +kernel
 exact key ⟨n, by omega⟩ h
end Go.Proofs.YthfobaeafapbnaaDoor.Dig.Plain
namespace Go.Proofs.YthfobaeafapbnaaDoor.Dig
open Go.RowKit Go.Proofs.YthfobaeafapbnaaDoor.Dig.Plain
theorem rotl_any (x : Int) (n : Nat) (w : World) (h : W32 x) (hn : 1 <= n) (hn' : n <= 31) :
  Calls Tryd.prog 89 #[.int .u32 x, .int .i64 (-(n : Int))] w fun e w' => e = .returned (.int .u32 (rotr x n)) /\ w = w' := by
 obtain ⟨h0, h1⟩ := h
 have hb := and31 n hn hn'
 have HR : Hid (bits .or .u32 (x * 2 ^ (32 - n) % 4294967296) (x / 2 ^ n) = rotr x n) := by unfold rotr; exact bits_or_comm _ _ _
 have e1 : (32 - (n : Int)).toNat = 32 - n := by omega
 have e2 : (32 - (32 - (n : Int))).toNat = n := by omega
 go_enter Tryd.func89, Tryd.ntmps89
 go_wp2
 go_ret
 exact ⟨by rw [<- HR.out]; rfl, rfl⟩
theorem right_any (x : Int) (n : Nat) (w : World) (h : W32 x) (hn : 1 <= n) (hn' : n <= 31) :
  Calls Tryd.prog 82 #[.int .u32 x, .int .i64 n] w fun e w' => e = .returned (.int .u32 (rotr x n)) /\ w = w' := by
 go_enter Tryd.func82, Tryd.ntmps82
 go_wp2_with (go_at_call 89; refine (rotl_any _ _ _ h hn hn').mono ?_; rintro e w' ⟨rfl, rfl⟩)
 go_ret
 exact ⟨rfl, rfl⟩
theorem rright_any (x : Int) (n : Nat) (w : World) (h : W32 x) (hn : 1 <= n) (hn' : n <= 31) :
  Calls Tryd.prog 85 #[.int .u32 x, .int .u64 n] w fun e w' => e = .returned (.int .u32 (rotr x n)) /\ w = w' := by
 obtain ⟨h0, h1⟩ := h
 go_enter Tryd.func85, Tryd.ntmps85
 go_wp2
 go_ret
 exact ⟨rfl, rfl⟩
theorem right_k (x k : Int) (w : World) (h : W32 x) (hn : 1 <= k) (hn' : k <= 31) :
  Calls Tryd.prog 82 #[.int .u32 x, .int .i64 k] w fun e w' => e = .returned (.int .u32 (rotr x k)) /\ w' = w := by
 obtain ⟨n, rfl⟩ := Int.eq_ofNat_of_zero_le (by omega : 0 <= k)
 exact (right_any x n w h (by omega) (by omega)).mono fun _ _ ⟨he, hw⟩ => ⟨he, hw.symm⟩
theorem rright_k (x k : Int) (w : World) (h : W32 x) (hn : 1 <= k) (hn' : k <= 31) :
  Calls Tryd.prog 85 #[.int .u32 x, .int .u64 k] w fun e w' => e = .returned (.int .u32 (rotr x k)) /\ w' = w := by
 obtain ⟨n, rfl⟩ := Int.eq_ofNat_of_zero_le (by omega : 0 <= k)
 exact (rright_any x n w h (by omega) (by omega)).mono fun _ _ ⟨he, hw⟩ => ⟨he, hw.symm⟩
end Go.Proofs.YthfobaeafapbnaaDoor.Dig
namespace Go.Proofs.YthfobaeafapbnaaDoor.Dig.Plain
open Go.RowKit
def Byt (B : List Int) : Prop := ∀ i, 0 <= B.getD i 0 /\ B.getD i 0 <= 255
def Wrd (L : List Int) : Prop := ∀ i, W32 (L.getD i 0)
def u8s (B : List Int) : Array Value := (B.map (Value.int .u8)).toArray
def u32s (L : List Int) : Array Value := (L.map (Value.int .u32)).toArray
theorem getD_app_left (X Y : List Int) (i : Nat) (h : i < X.length) : (X ++ Y).getD i 0 = X.getD i 0 := by
 simp [List.getD, List.getElem?_append_left h]
theorem getD_of_lt (X : List Int) (i : Nat) (h : i < X.length) : X[i]? = some (X.getD i 0) := by simp [List.getD, h]
def fil (X : List Int) (n : Nat) : Array Value := u32s (X ++ List.replicate (n - X.length) 0)
theorem size_fil (X : List Int) (n : Nat) (h : X.length <= n) : (fil X n).size = n := by simp [fil, u32s]; omega
theorem fil_set (X : List Int) (n : Nat) (v : Int) (h : X.length < n) : (fil X n).setIfInBounds X.length (.int .u32 v) = fil (X ++ [v]) n := by
 obtain ⟨m, hm⟩ : ∃ m, n - X.length = m + 1 := ⟨n - X.length - 1, by omega⟩
 have hm' : n - (X ++ [v]).length = m := by simp; omega
 unfold fil u32s
 rw [hm, hm']
 simp [List.replicate_succ]
theorem fil_get (X : List Int) (n i : Nat) (h : i < X.length) : (fil X n)[i]? = some (.int .u32 (X.getD i 0)) := by
 simp only [fil, u32s, List.getElem?_toArray, List.getElem?_map, List.getElem?_append_left h]
 rw [getD_of_lt X i h]; rfl
theorem fil_full (X : List Int) (n : Nat) (h : X.length = n) : fil X n = u32s X := by simp [fil, h]
theorem fil_some (X : List Int) (n i : Nat) (h : i < n) (hX : X.length <= n) : ∃ v, (fil X n)[i]? = some v := by
 have : i < (fil X n).size := by rw [size_fil X n hX]; exact h
 exact ⟨_, Array.getElem?_eq_getElem this⟩
def word (B : List Int) (p t : Nat) : Int := B.getD (p + 4 * t) 0 * 16777216 + B.getD (p + 4 * t + 1) 0 * 65536 + B.getD (p + 4 * t + 2) 0 * 256 + B.getD (p + 4 * t + 3) 0
theorem W32.word (B : List Int) (p t : Nat) (h : Byt B) : W32 (word B p t) := by
 unfold Plain.word W32
 have h1 := h (p + 4 * t)
 have h2 := h (p + 4 * t + 1)
 have h3 := h (p + 4 * t + 2)
 have h4 := h (p + 4 * t + 3)
 omega
theorem or_add (s a b : Nat) (ha : a % 2 ^ s = 0) (hb : b < 2 ^ s) (h1 : a < 4294967296) (h2 : b < 4294967296) : bits .or .u32 (a : Int) (b : Int) = (a : Int) + (b : Int) := by
 rw [u32_or_nat a b h1 h2, nat_join s a b ha hb]; simp
theorem or4 (a b c d : Int) (ha : 0 <= a /\ a <= 255) (hb : 0 <= b /\ b <= 255) (hc : 0 <= c /\ c <= 255) (hd : 0 <= d /\ d <= 255) :
  bits .or .u32 (bits .or .u32 (bits .or .u32 (a * 16777216) (b * 65536)) (c * 256)) d = a * 16777216 + b * 65536 + c * 256 + d := by
 obtain ⟨A, rfl⟩ := Int.eq_ofNat_of_zero_le ha.1
 obtain ⟨B, rfl⟩ := Int.eq_ofNat_of_zero_le hb.1
 obtain ⟨C, rfl⟩ := Int.eq_ofNat_of_zero_le hc.1
 obtain ⟨D, rfl⟩ := Int.eq_ofNat_of_zero_le hd.1
 have e1 := or_add 24 (A * 16777216) (B * 65536) (by omega) (by omega) (by omega) (by omega)
 have e2 := or_add 16 (A * 16777216 + B * 65536) (C * 256) (by omega) (by omega) (by omega) (by omega)
 have e3 := or_add 8 (A * 16777216 + B * 65536 + C * 256) D (by omega) (by omega) (by omega) (by omega)
 simp only [Int.natCast_add, Int.natCast_mul, Int.cast_ofNat_Int] at e1 e2 e3
 rw [e1, e2, e3]
def wl0 (B : List Int) (p : Nat) : Nat -> List Int
 | 0 => []
 | k + 1 => wl0 B p k ++ [word B p k]
def sig0 (x : Int) : Int := bits .xor .u32 (bits .xor .u32 (rotr x 7) (rotr x 18)) (x / 8)
def sig1 (x : Int) : Int := bits .xor .u32 (bits .xor .u32 (rotr x 17) (rotr x 19)) (x / 1024)
def nextW (L : List Int) (j : Nat) : Int := (L.getD j 0 + sig0 (L.getD (j + 1) 0) + L.getD (j + 9) 0 + sig1 (L.getD (j + 14) 0)) % 4294967296
def wlx (B : List Int) (p : Nat) : Nat -> List Int
 | 0 => wl0 B p 16
 | j + 1 => wlx B p j ++ [nextW (wlx B p j) j]
def sched (B : List Int) (p : Nat) : List Int := wlx B p 48
theorem length_wl0 (B : List Int) (p k : Nat) : (wl0 B p k).length = k := by
 induction k with
 | zero => rfl
 | succ k ih => simp [wl0, ih]
theorem length_wlx (B : List Int) (p j : Nat) : (wlx B p j).length = 16 + j := by
 induction j with
 | zero => simp [wlx, length_wl0]
 | succ j ih => simp [wlx, ih]; omega
theorem length_sched (B : List Int) (p : Nat) : (sched B p).length = 64 := length_wlx B p 48
theorem wrd_snoc (L : List Int) (v : Int) (h : Wrd L) (hv : W32 v) : Wrd (L ++ [v]) := by
 intro i
 by_cases hi : i < L.length
 ·rw [getD_app_left _ _ _ hi]; exact h i
 ·simp only [List.getD, List.getElem?_append_right (Nat.le_of_not_lt hi)]
  by_cases e : i - L.length = 0
  ·rw [e]; simpa using hv
  ·rw [List.getElem?_eq_none (by simp; omega)]; simp [W32]
theorem wrd_nil : Wrd [] := by intro i; simp [W32]
theorem wrd_wl0 (B : List Int) (p k : Nat) (h : Byt B) : Wrd (wl0 B p k) := by
 induction k with
 | zero => exact wrd_nil
 | succ k ih => exact wrd_snoc _ _ ih (W32.word B p k h)
theorem wrd_wlx (B : List Int) (p j : Nat) (h : Byt B) : Wrd (wlx B p j) := by
 induction j with
 | zero => exact wrd_wl0 B p 16 h
 | succ j ih => exact wrd_snoc _ _ ih (W32.wrap _)
theorem wrd_sched (B : List Int) (p : Nat) (h : Byt B) : Wrd (sched B p) := wrd_wlx B p 48 h
theorem wl0_congr (B C : List Int) (p q : Nat) (h : ∀ i, i < 64 -> B.getD (p + i) 0 = C.getD (q + i) 0) (k : Nat) (hk : k <= 16) : wl0 B p k = wl0 C q k := by
 induction k with
 | zero => rfl
 | succ k ih =>
  rw [wl0, wl0, ih (by omega)]
  have h1 := h (4 * k) (by omega)
  have h2 := h (4 * k + 1) (by omega)
  have h3 := h (4 * k + 2) (by omega)
  have h4 := h (4 * k + 3) (by omega)
  simp only [<- Nat.add_assoc] at h2 h3 h4
  simp only [word, h1, h2, h3, h4]
theorem sched_congr (B C : List Int) (p q : Nat) (h : ∀ i, i < 64 -> B.getD (p + i) 0 = C.getD (q + i) 0) : sched B p = sched C q := by
 have key : ∀ j, wlx B p j = wlx C q j := by
  intro j
  induction j with
  | zero => exact wl0_congr B C p q h 16 (by omega)
  | succ j ih => rw [wlx, wlx, ih]
 exact key 48
theorem row_cell (w : World) (g i : Nat) (B : List Int) (t : TypeId) (fr : Nat × Nat) (hg : w.heap[g]? = some (.cells (u8s B) t fr)) (h : i < B.length) : w.cell? ⟨g, i, none⟩ = some (.int .u8 (B.getD i 0)) := by
 rw [cell_of_row _ _ _ _ _ _ hg]; simp [u8s, h]
theorem fil_cell (w : World) (g i n : Nat) (X : List Int) (t : TypeId) (fr : Nat × Nat) (hg : w.heap[g]? = some (.cells (fil X n) t fr)) (h : i < X.length) : w.cell? ⟨g, i, none⟩ = some (.int .u32 (X.getD i 0)) := by
 rw [cell_of_row _ _ _ _ _ _ hg]; exact fil_get X n i h
theorem u32_cell (w : World) (g i : Nat) (X : List Int) (t : TypeId) (fr : Nat × Nat) (hg : w.heap[g]? = some (.cells (u32s X) t fr)) (h : i < X.length) : w.cell? ⟨g, i, none⟩ = some (.int .u32 (X.getD i 0)) := by
 rw [cell_of_row _ _ _ _ _ _ hg]; simp [u32s, h]
theorem fil_step (w wr : World) (g n S : Nat) (X : List Int) (v : Int) (h : X.length < n) (hS : S <= g) (hg : wr.heap[g]? = some (.cells (fil X n) 163 (0, 0))) (hb : Below S w wr) :
  (wr.setCell ⟨g, X.length, none⟩ (.int .u32 v)).heap[g]? = some (.cells (fil (X ++ [v]) n) 163 (0, 0)) /\ Below S w (wr.setCell ⟨g, X.length, none⟩ (.int .u32 v)) /\ ∀ j, j ≠ g -> (wr.setCell ⟨g, X.length, none⟩ (.int .u32 v)).heap[j]? = wr.heap[j]? := by
 refine ⟨?_, ⟨hb.os, hb.tape, hb.output, by simpa using hb.size, fun k hk => ?_⟩, fun j hj => heap_setCell_other wr ⟨g, X.length, none⟩ j _ (fun e => hj e)⟩
 ·rw [heap_setCell_same wr g X.length _ 163 _ hg, fil_set X n v h]
 ·rw [heap_setCell_other wr ⟨g, X.length, none⟩ k _ (fun e => by simp at e; omega)]
  exact hb.block k hk
theorem al_at {w : World} {o : Obj} {S : Nat} (h : w.heap.size = S) : (w.alloc o).heap[S]? = some o := by rw [<- h]; exact heap_alloc_new w o
theorem al_old {w : World} {o x : Obj} {j : Nat} (h : w.heap[j]? = some x) : (w.alloc o).heap[j]? = some x := by
 rw [Below.heap_alloc w o j (Array.getElem?_eq_some_iff.1 h).1]; exact h
end Go.Proofs.YthfobaeafapbnaaDoor.Dig.Plain
namespace Go.Proofs.YthfobaeafapbnaaDoor.Dig
open Go.RowKit Go.Proofs.YthfobaeafapbnaaDoor.Dig.Plain
set_option maxHeartbeats 2000000 in
theorem schedule_any (B : List Int) (w : World) (hB : B.length = 64) (hb : Byt B) :
  Calls Tryd.prog 77 #[.agg (u8s B)] w fun e w' => e = .returned (.agg (u32s (sched B 0))) /\ Below w.heap.size w w' := by
 obtain ⟨S, hS⟩ : ∃ S, w.heap.size = S := ⟨_, rfl⟩
 have HS : Hid (w.heap.size = S) := hS
 have z64 : (fil [] 64) = #[.int .u32 0, .int .u32 0, .int .u32 0, .int .u32 0, .int .u32 0, .int .u32 0, .int .u32 0, .int .u32 0, .int .u32 0, .int .u32 0, .int .u32 0, .int .u32 0, .int .u32 0, .int .u32 0, .int .u32 0, .int .u32 0, .int .u32 0, .int .u32 0, .int .u32 0, .int .u32 0, .int .u32 0, .int .u32 0, .int .u32 0, .int .u32 0, .int .u32 0, .int .u32 0, .int .u32 0, .int .u32 0, .int .u32 0, .int .u32 0, .int .u32 0, .int .u32 0, .int .u32 0, .int .u32 0, .int .u32 0, .int .u32 0, .int .u32 0, .int .u32 0, .int .u32 0, .int .u32 0, .int .u32 0, .int .u32 0, .int .u32 0, .int .u32 0, .int .u32 0, .int .u32 0, .int .u32 0, .int .u32 0, .int .u32 0, .int .u32 0, .int .u32 0, .int .u32 0, .int .u32 0, .int .u32 0, .int .u32 0, .int .u32 0, .int .u32 0, .int .u32 0, .int .u32 0, .int .u32 0, .int .u32 0, .int .u32 0, .int .u32 0, .int .u32 0] := rfl
 have HZ : Hid _ := z64
 clear z64 hS
 go_enter Tryd.func77, Tryd.ntmps77
 go_wp2
 rw [HS.out]
 go_loopw [4, 8] (fun _ i wr => ∃ k : Nat, k <= 16 /\ i = .int .i64 k /\ wr.heap[S]? = some (.cells (u8s B) 142 (0, 0)) /\ wr.heap[S + 1]? = some (.cells (fil [] 64) 163 (0, 0)) /\ wr.heap[S + 2]? = some (.cells (fil (wl0 B 0 k) 64) 163 (0, 0)) /\ Below S w wr) (fun _ i _ => 16 - (intOf i).toNat)
 case atStart =>
  refine ⟨0, by omega, rfl, ?_, ?_, ?_, ?_⟩
  ·exact al_old (al_old (al_at HS.out))
  ·rw [HZ.out]; exact al_old (al_at (by simp [HS.out]))
  ·rw [wl0, HZ.out]; exact al_at (by simp [HS.out])
  ·rw [<- HS.out]; exact (((Below.refl _ _).alloc (Nat.le_refl _) _).alloc (by simp) _).alloc (by simp; omega) _
 case round =>
  obtain ⟨k, hk, rfl, hgB, hgR, hgW, hbel⟩ := hrel
  by_cases hlt : k < 16
  ·have c1 := row_cell wr S (4 * k) B _ _ hgB (by omega)
   have c2 := row_cell wr S (4 * k + 1) B _ _ hgB (by omega)
   have c3 := row_cell wr S (4 * k + 2) B _ _ hgB (by omega)
   have c4 := row_cell wr S (4 * k + 3) B _ _ hgB (by omega)
   have b1 := hb (4 * k)
   have b2 := hb (4 * k + 1)
   have b3 := hb (4 * k + 2)
   have b4 := hb (4 * k + 3)
   have HW : Hid (word B 0 k = B.getD (4 * k) 0 * 16777216 + B.getD (4 * k + 1) 0 * 65536 + B.getD (4 * k + 2) 0 * 256 + B.getD (4 * k + 3) 0) := by
    unfold word; rw [Nat.zero_add]; rfl
   generalize B.getD (4 * k) 0 = z1 at c1 b1 HW
   generalize B.getD (4 * k + 1) 0 = z2 at c2 b2 HW
   generalize B.getD (4 * k + 2) 0 = z3 at c3 b3 HW
   generalize B.getD (4 * k + 3) 0 = z4 at c4 b4 HW
   have HO : Hid (bits .or .u32 (bits .or .u32 (bits .or .u32 (z1 * 16777216) (z2 * 65536)) (z3 * 256)) z4 = word B 0 k) := by rw [HW.out]; exact or4 z1 z2 z3 z4 b1 b2 b3 b4
   have hf : wr.frozen? ⟨S + 2, k, none⟩ = false := frozen_of_row wr _ _ _ 163 hgW
   obtain ⟨v, hcw⟩ : ∃ v, wr.cell? ⟨S + 2, k, none⟩ = some v := by
    obtain ⟨v, hv⟩ := fil_some (wl0 B 0 k) 64 k (by omega) (by rw [length_wl0]; omega)
    exact ⟨v, by rw [cell_of_row _ _ _ _ _ _ hgW]; exact hv⟩
   have hst := fil_step w wr (S + 2) 64 S (wl0 B 0 k) (word B 0 k) (by rw [length_wl0]; omega) (by omega) hgW hbel
   rw [length_wl0] at hst
   have HST : Hid _ := hst
   clear hst
   go_wp2
   go_region
   go_wp2
   go_roundw
   case rel =>
    rw [HO.out]
    obtain ⟨s1, s2, s3⟩ := HST.out
    refine ⟨k + 1, by omega, by go_num, ?_, ?_, ?_, ?_⟩
    ·exact (s3 S (by omega)).trans hgB
    ·exact (s3 (S + 1) (by omega)).trans hgR
    ·exact s1
    ·exact s2.drew
   case measure => simp [intOf]; omega
  ·obtain rfl : k = 16 := by omega
   go_wp2
   go_loopw [5] (fun i wr => ∃ t j : Nat, Hid (t = 16 + j /\ j <= 48) /\ i = .int .i64 t /\ wr.heap[S + 1]? = some (.cells (fil [] 64) 163 (0, 0)) /\ wr.heap[S + 2]? = some (.cells (fil (wlx B 0 j) 64) 163 (0, 0)) /\ Below S w wr) (fun i _ => 64 - (intOf i).toNat)
   case atStart => exact ⟨16, 0, ⟨rfl, by omega⟩, rfl, hgR, hgW, hbel⟩
   case round =>
    clear hgB hgR hgW hbel
    obtain ⟨t, j, HT, rfl, hgR, hgW, hbel⟩ := hrel
    by_cases hlt : t < 64
    ·obtain ⟨ht, hj⟩ := HT.out
     have hln := length_wlx B 0 j
     have hwd := wrd_wlx B 0 j hb
     obtain ⟨z1, Z1⟩ : ∃ z, Hid ((wlx B 0 j).getD j 0 = z) := ⟨_, rfl⟩
     obtain ⟨z2, Z2⟩ : ∃ z, Hid ((wlx B 0 j).getD (j + 1) 0 = z) := ⟨_, rfl⟩
     obtain ⟨z3, Z3⟩ : ∃ z, Hid ((wlx B 0 j).getD (j + 9) 0 = z) := ⟨_, rfl⟩
     obtain ⟨z4, Z4⟩ : ∃ z, Hid ((wlx B 0 j).getD (j + 14) 0 = z) := ⟨_, rfl⟩
     have b1 : W32 z1 := by rw [<- Z1.out]; exact hwd j
     have b2 : W32 z2 := by rw [<- Z2.out]; exact hwd (j + 1)
     have b3 : W32 z3 := by rw [<- Z3.out]; exact hwd (j + 9)
     have b4 : W32 z4 := by rw [<- Z4.out]; exact hwd (j + 14)
     have C1 : Hid (∀ x : World, x.heap[S + 2]? = some (.cells (fil (wlx B 0 j) 64) 163 (0, 0)) -> x.cell? ⟨S + 2, j, none⟩ = some (.int .u32 z1)) := fun x hx => by rw [<- Z1.out]; exact fil_cell x _ _ 64 _ _ _ hx (by omega)
     have C2 : Hid (∀ x : World, x.heap[S + 2]? = some (.cells (fil (wlx B 0 j) 64) 163 (0, 0)) -> x.cell? ⟨S + 2, j + 1, none⟩ = some (.int .u32 z2)) := fun x hx => by rw [<- Z2.out]; exact fil_cell x _ _ 64 _ _ _ hx (by omega)
     have C3 : Hid (∀ x : World, x.heap[S + 2]? = some (.cells (fil (wlx B 0 j) 64) 163 (0, 0)) -> x.cell? ⟨S + 2, j + 9, none⟩ = some (.int .u32 z3)) := fun x hx => by rw [<- Z3.out]; exact fil_cell x _ _ 64 _ _ _ hx (by omega)
     have C4 : Hid (∀ x : World, x.heap[S + 2]? = some (.cells (fil (wlx B 0 j) 64) 163 (0, 0)) -> x.cell? ⟨S + 2, j + 14, none⟩ = some (.int .u32 z4)) := fun x hx => by rw [<- Z4.out]; exact fil_cell x _ _ 64 _ _ _ hx (by omega)
     have HW : Hid (nextW (wlx B 0 j) j = (z1 + sig0 z2 + z3 + sig1 z4) % 4294967296) := by rw [<- Z1.out, <- Z2.out, <- Z3.out, <- Z4.out]; rfl
     have e16 : (t : Int) - 16 = (j : Int) := by omega
     have e15 : (t : Int) - 15 = ((j + 1 : Nat) : Int) := by omega
     have e7 : (t : Int) - 7 = ((j + 9 : Nat) : Int) := by omega
     have e2 : (t : Int) - 2 = ((j + 14 : Nat) : Int) := by omega
     have i16 : j < 64 := by omega
     have i15 : j + 1 < 64 := by omega
     have i7 : j + 9 < 64 := by omega
     have i2 : j + 14 < 64 := by omega
     have HV : Hid (∀ x : World, x.heap[S + 2]? = some (.cells (fil (wlx B 0 j) 64) 163 (0, 0)) -> ∃ v, x.cell? ⟨S + 2, t, none⟩ = some v) := by
      intro x hx
      obtain ⟨v, hv⟩ := fil_some (wlx B 0 j) 64 t (by omega) (by omega)
      exact ⟨v, by rw [cell_of_row _ _ _ _ _ _ hx]; exact hv⟩
     have HST : Hid (∀ x : World, x.heap[S + 2]? = some (.cells (fil (wlx B 0 j) 64) 163 (0, 0)) -> Below S w x -> (x.setCell ⟨S + 2, t, none⟩ (.int .u32 (nextW (wlx B 0 j) j))).heap[S + 2]? = some (.cells (fil (wlx B 0 (j + 1)) 64) 163 (0, 0)) /\ Below S w (x.setCell ⟨S + 2, t, none⟩ (.int .u32 (nextW (wlx B 0 j) j))) /\ ∀ q, q ≠ S + 2 -> (x.setCell ⟨S + 2, t, none⟩ (.int .u32 (nextW (wlx B 0 j) j))).heap[q]? = x.heap[q]?) := by
      intro x hx hbx
      have := fil_step w x (S + 2) 64 S (wlx B 0 j) (nextW (wlx B 0 j) j) (by omega) (by omega) hx hbx
      rwa [hln, <- ht] at this
     generalize j + 1 = m1 at C2 e15 i15
     generalize j + 9 = m9 at C3 e7 i7
     generalize j + 14 = m14 at C4 e2 i2
     obtain ⟨p1, q1⟩ := b1
     obtain ⟨p3, q3⟩ := b3
     clear hwd hln hj ht Z1 Z2 Z3 Z4
     have c2 := C2.out wr hgW
     go_wp2
     go_quiet ((go_at_call 82; exact Calls.quiet_of_same (right_k _ _ _ (by assumption) (by decide) (by decide))))
     have R2 : (wr.drewN nq).heap[S + 1]? = _ := hgR
     have W2 : (wr.drewN nq).heap[S + 2]? = _ := hgW
     have B2 : Below S w (wr.drewN nq) := ⟨hbel.os, hbel.tape, hbel.output, hbel.size, hbel.block⟩
     clear hgR hgW hbel c2 C2
     generalize wr.drewN nq = x2 at R2 W2 B2 ⊢
     have c4 := C4.out x2 W2
     clear nq wr
     go_wp2
     go_quiet ((go_at_call 82; exact Calls.quiet_of_same (right_k _ _ _ (by assumption) (by decide) (by decide))))
     have R3 : (x2.drewN nq).heap[S + 1]? = _ := R2
     have W3 : (x2.drewN nq).heap[S + 2]? = _ := W2
     have B3 : Below S w (x2.drewN nq) := ⟨B2.os, B2.tape, B2.output, B2.size, B2.block⟩
     clear R2 W2 B2 c4 C4
     generalize x2.drewN nq = x3 at R3 W3 B3 ⊢
     have c1 := C1.out x3 W3
     have c3 := C3.out x3 W3
     clear nq x2
     have hf : x3.frozen? ⟨S + 2, t, none⟩ = false := frozen_of_row x3 _ _ _ 163 W3
     obtain ⟨v, hcw⟩ := HV.out x3 W3
     have HS3 : Hid _ := HST.out x3 W3 B3
     go_wp2
     go_region
     go_wp2
     go_roundw
     case rel =>
      obtain ⟨s1, s2, s3⟩ := HS3.out
      have HE : (z1 + bits BinOp.xor IntKind.u32 (bits BinOp.xor IntKind.u32 (rotr z2 7) (rotr z2 18)) (z2 / 8) + z3 + bits BinOp.xor IntKind.u32 (bits BinOp.xor IntKind.u32 (rotr z4 17) (rotr z4 19)) (z4 / 1024)) % 4294967296 = nextW (wlx B 0 j) j := HW.out.symm
      rw [HE]
      obtain ⟨ht, hj⟩ := HT.out
      refine ⟨t + 1, j + 1, ⟨by omega, by omega⟩, by go_num, ?_, ?_, ?_⟩
      ·exact (s3 (S + 1) (by omega)).trans R3
      ·exact s1
      ·exact s2.drew
     case measure => simp [intOf]; omega
    ·obtain ⟨ht, hj⟩ := HT.out
     obtain rfl : t = 64 := by omega
     obtain rfl : j = 48 := by omega
     have hln := length_sched B 0
     have hgW' : wr.heap[S + 2]? = some (.cells (u32s (sched B 0)) 163 (0, 0)) := by rw [<- fil_full (sched B 0) 64 hln]; exact hgW
     have hsz : (u32s (sched B 0)).size = 64 := by simp [u32s, hln]
     have hall : (u32s (sched B 0)).all (·.oneCell') = true := by simp [u32s, Value.oneCell']
     clear hgW ht hj HT hln
     obtain ⟨X, HX⟩ : ∃ X, Hid (sched B 0 = X) := ⟨_, rfl⟩
     rw [HX.out] at hgW' hsz hall
     have HF : Hid _ := And.intro hsz (And.intro hall (And.intro hgW' (And.intro hgR hbel)))
     clear hsz hall hgW' hgR hbel
     go_wp2_with (first | (refine wpList_load_row rfl 163 _ rfl (S + 2) rfl 163 (u32s X) (0, 0) _ HF.out.2.2.1 Tryd.underlying163 rfl (by rw [HF.out.1]; kernel_rfl) ?_) | (refine wpList_store_row rfl 163 _ _ rfl (S + 1) (u32s X) rfl rfl 163 (fil [] 64) HF.out.2.2.2.1 (by rw [HF.out.1]; kernel_rfl) (by rw [HF.out.1]; rfl) HF.out.2.1 ?_))
     (try simp only [Exit.inBlock, Exit.then])
     refine bodyPost_ret (results_cell_row (p := 2) (ty := 163) rfl _ _ (S + 1) 163 (u32s X) (0, 0) _ rfl (setRow_heap _ _ _ _ _ _ HF.out.2.2.2.1) Tryd.underlying163 rfl (by rw [HF.out.1]; kernel_rfl)) rfl ?_
     exact ⟨by rw [HX.out], by rw [HS.out]; exact below_setRow HF.out.2.2.2.2 (by omega) _⟩
end Go.Proofs.YthfobaeafapbnaaDoor.Dig
namespace Go.Proofs.YthfobaeafapbnaaDoor.Dig.Plain
open Go.RowKit
def hh : List Int := [1779033703, 3144134277, 1013904242, 2773480762, 1359893119, 2600822924, 528734635, 1541459225]
def kk : List Int := [1116352408, 1899447441, 3049323471, 3921009573, 961987163, 1508970993, 2453635748, 2870763221, 3624381080, 310598401, 607225278, 1426881987, 1925078388, 2162078206, 2614888103, 3248222580, 3835390401, 4022224774, 264347078, 604807628, 770255983, 1249150122, 1555081692, 1996064986, 2554220882, 2821834349, 2952996808, 3210313671, 3336571891, 3584528711, 113926993, 338241895, 666307205, 773529912, 1294757372, 1396182291, 1695183700, 1986661051, 2177026350, 2456956037, 2730485921, 2820302411, 3259730800, 3345764771, 3516065817, 3600352804, 4094571909, 275423344, 430227734, 506948616, 659060556, 883997877, 958139571, 1322822218, 1537002063, 1747873779, 1955562222, 2024104815, 2227730452, 2361852424, 2428436474, 2756734187, 3204031479, 3329325298]
structure St where
 a : Int
 b : Int
 c : Int
 d : Int
 e : Int
 f : Int
 g : Int
 h : Int
def St.list (s : St) : List Int := [s.a, s.b, s.c, s.d, s.e, s.f, s.g, s.h]
def St.of (L : List Int) : St := ⟨L.getD 0 0, L.getD 1 0, L.getD 2 0, L.getD 3 0, L.getD 4 0, L.getD 5 0, L.getD 6 0, L.getD 7 0⟩
def St.OK (s : St) : Prop := W32 s.a /\ W32 s.b /\ W32 s.c /\ W32 s.d /\ W32 s.e /\ W32 s.f /\ W32 s.g /\ W32 s.h
def ep1 (e : Int) : Int := bits .xor .u32 (bits .xor .u32 (rotr e 6) (rotr e 11)) (rotr e 25)
def ep0 (a : Int) : Int := bits .xor .u32 (bits .xor .u32 (rotr a 2) (rotr a 13)) (rotr a 22)
def cho (e f g : Int) : Int := bits .xor .u32 (bits .and .u32 e f) (bits .and .u32 (bits .xor .u32 (if IntKind.u32.signed = true then -1 else IntKind.u32.max) e) g)
def maj (a b c : Int) : Int := bits .xor .u32 (bits .xor .u32 (bits .and .u32 a b) (bits .and .u32 a c)) (bits .and .u32 b c)
def one (s : St) (k w : Int) : Int := (s.h + ep1 s.e + cho s.e s.f s.g + k + w) % 4294967296
def two (s : St) : Int := (ep0 s.a + maj s.a s.b s.c) % 4294967296
def stepSt (s : St) (k w : Int) : St := ⟨(one s k w + two s) % 4294967296, s.a, s.b, s.c, (s.d + one s k w) % 4294967296, s.e, s.f, s.g⟩
def rnd (W : List Int) (s : St) : Nat -> St
 | 0 => s
 | k + 1 => stepSt (rnd W s k) (kk.getD k 0) (W.getD k 0)
theorem St.OK.step {s : St} (h : s.OK) (k w : Int) : (stepSt s k w).OK := by
 obtain ⟨ha, hb, hc, hd, he, hf, hg, hh⟩ := h
 exact ⟨W32.wrap _, ha, hb, hc, W32.wrap _, he, hf, hg⟩
theorem rnd_ok (W : List Int) (s : St) (h : s.OK) (k : Nat) : (rnd W s k).OK := by
 induction k with
 | zero => exact h
 | succ k ih => exact ih.step _ _
theorem St.of_ok {L : List Int} (h : Wrd L) : (St.of L).OK := ⟨h 0, h 1, h 2, h 3, h 4, h 5, h 6, h 7⟩
theorem wrd_kk : Wrd kk := by
 intro i
 by_cases h : i < 64
 ·have key : ∀ j : Fin 64, 0 <= kk.getD j.val 0 /\ kk.getD j.val 0 < 4294967296 := by decide +kernel
  exact key ⟨i, h⟩
 ·have e : kk.getD i 0 = 0 := by
   simp only [List.getD]
   rw [List.getElem?_eq_none (by show 64 <= i; omega)]; rfl
  rw [e]; simp [W32]
def mz (H X : List Int) : Nat -> List Int
 | 0 => H
 | k + 1 => (mz H X k).set k ((H.getD k 0 + X.getD k 0) % 4294967296)
def mix (H W : List Int) : List Int := mz H (rnd W (St.of H) 64).list 8
theorem length_mz (H X : List Int) (k : Nat) : (mz H X k).length = H.length := by
 induction k with
 | zero => rfl
 | succ k ih => simp [mz, ih]
theorem length_mix (H W : List Int) : (mix H W).length = H.length := length_mz _ _ _
theorem mz_far (H X : List Int) (k i : Nat) (h : k <= i) : (mz H X k).getD i 0 = H.getD i 0 := by
 induction k with
 | zero => rfl
 | succ k ih =>
  rw [mz]
  simp only [List.getD]
  rw [List.getElem?_set_ne (by omega)]
  exact ih (by omega)
theorem wrd_set (L : List Int) (k : Nat) (v : Int) (h : Wrd L) (hv : W32 v) : Wrd (L.set k v) := by
 intro i
 simp only [List.getD]
 rw [List.getElem?_set]
 split
 ·split
  ·exact hv
  ·simp [W32]
 ·exact h i
theorem wrd_mz (H X : List Int) (k : Nat) (h : Wrd H) : Wrd (mz H X k) := by
 induction k with
 | zero => exact h
 | succ k ih => exact wrd_set _ _ _ ih (W32.wrap _)
theorem wrd_mix (H W : List Int) (h : Wrd H) : Wrd (mix H W) := wrd_mz _ _ _ h
theorem u32s_set (L : List Int) (k : Nat) (v : Int) : (u32s L).setIfInBounds k (.int .u32 v) = u32s (L.set k v) := by simp [u32s, List.map_set]
theorem size_u32s (L : List Int) : (u32s L).size = L.length := by simp [u32s]
theorem all_u32s (L : List Int) : (u32s L).all (·.oneCell') = true := by simp [u32s, Value.oneCell']
theorem size_u8s (L : List Int) : (u8s L).size = L.length := by simp [u8s]
theorem all_u8s (L : List Int) : (u8s L).all (·.oneCell') = true := by simp [u8s, Value.oneCell']
theorem run_index_row {P : Program} {t el : TypeId} {n : Nat} {d : TypeDesc} {cs : Array Value} {v : Value} (hu : P.underlying t = some (.array n el)) (he : P.underlying el = some d) (hd : d.isRow = false) (hs : (P.info? el).map (·.size) = some 1) (k : Nat) (hk : k < n) (hv : cs[k]? = some v) (w : World) :
  (Instr.index t (.agg cs) (.int .i64 k)).run P w = .ok v w := by
 cases hq : P.info? el with
 | none => simp [hq] at hs
 | some i =>
  have hs1 : i.size = 1 := by simpa [hq] using hs
  have hagg : (isAgg el).run P w = .ok false w := by
   unfold isAgg
   rw [Sem.run_bind, run_underlying he w]
   cases d <;> simp_all [TypeDesc.isRow]
  have hc : (0 : Int) <= (k : Int) /\ (k : Int) < (n : Int) := by omega
  simp [Instr.index, asIntOf, Sem.run_bind, run_underlying hu, hc, sizeOf, typeInfo, hq, hs1, part, hagg, hv]
  intro hc2; omega
end Go.Proofs.YthfobaeafapbnaaDoor.Dig.Plain
