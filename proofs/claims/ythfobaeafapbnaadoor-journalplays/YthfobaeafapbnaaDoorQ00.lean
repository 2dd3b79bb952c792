/-
 Plain facts on bytes, rows of cells and numbers that the walks of this seat lean on; nothing of the program is said here. And what follows it.
-/
import Derived.Laws.CopyOwn
import Derived.WalkKit
import Derived.Laws.BitsAllLaws
import Derived.Deep.MidRow
import Derived.Test.YthfobaeafapbnaaDoorProg
import Derived.Laws.BytesArg
import Derived.Laws.Strings
import Derived.Laws.AppendOwn
import Derived.OwnWalk
import Derived.Maps.AppendAt
import Derived.OpenShut
import Derived.ProofKit
import Derived.ShutString
import Derived.ChangeOld
import Derived.Below
import Derived.Deep.Matrix
import Derived.Deep.Cut
import Derived.Test.YthfobaeafapbnaaDoorRows
import Derived.WalkSpells
import Derived.WalkLawsBesides
set_option linter.unusedVariables false
set_option maxRecDepth 100000
namespace Go.Proofs.YthfobaeafapbnaaDoor.Plain
open Go.RowKit
def byteAt (x : Int) (i : Nat) : Int := x / 2 ^ (8 * i) % 256
def bytesOf (x : Int) : Nat -> List Int
 | 0 => []
 | k + 1 => bytesOf x k ++ [byteAt x k]
def bys (x : Int) (k : Nat) : List Value := (bytesOf x k).map (Value.int .u8)
theorem length_bytesOf (x : Int) (k : Nat) : (bytesOf x k).length = k := by
 induction k with
 | zero => rfl
 | succ k ih => simp [bytesOf, ih]
theorem length_bys (x : Int) (k : Nat) : (bys x k).length = k := by simp [bys, length_bytesOf]
theorem bys_zero (x : Int) : bys x 0 = [] := rfl
theorem bys_succ (x : Int) (k : Nat) : bys x (k + 1) = bys x k ++ [.int .u8 (byteAt x k)] := by simp [bys, bytesOf]
theorem byteAt_bd (x : Int) (i : Nat) : 0 <= byteAt x i /\ byteAt x i <= 255 := by unfold byteAt; omega
theorem splice_nil {α : Type} (L : List α) (off : Nat) : splice L off [] = L := by simp [splice]
theorem splice_snoc {α : Type} (L cs : List α) (c : α) (off : Nat) (h : off + cs.length < L.length) : splice L off (cs ++ [c]) = (splice L off cs).set (off + cs.length) c := by
 unfold splice
 have h1 : (L.take off).length = off := by simp; omega
 rw [List.set_append_right _ _ (by omega), h1]
 rw [List.set_append_right _ _ (by omega)]
 have e : off + cs.length - off - cs.length = 0 := by omega
 rw [e]
 have e2 : L.drop (off + cs.length) = L[off + cs.length] :: L.drop (off + cs.length + 1) := by rw [List.drop_eq_getElem_cons]
 rw [e2]
 simp [Nat.add_assoc]
theorem lay_step (w wr : World) (g off k : Nat) (cur : List Value) (x : Int) (h : off + k < cur.length) (hg : wr.heap[g]? = some (.cells (splice cur off (bys x k)).toArray 5 (0, 0))) (hgr : w.grownBy wr (some g)) (hsz : wr.heap.size = w.heap.size) :
  (wr.setCell ⟨g, off + k, none⟩ (.int .u8 (x / 2 ^ (8 * k) % 256))).heap[g]? = some (.cells (splice cur off (bys x (k + 1))).toArray 5 (0, 0)) /\
   w.grownBy (wr.setCell ⟨g, off + k, none⟩ (.int .u8 (x / 2 ^ (8 * k) % 256))) (some g) /\ (wr.setCell ⟨g, off + k, none⟩ (.int .u8 (x / 2 ^ (8 * k) % 256))).heap.size = w.heap.size := by
 refine ⟨?_, ?_, by simpa using hsz⟩
 ·rw [heap_setCell_same wr g (off + k) _ 5 _ hg, bys_succ, splice_snoc _ _ _ _ (by rw [length_bys]; exact h), length_bys]
  simp [byteAt]
 ·refine ⟨hgr.os, hgr.tape, hgr.output, by rw [<- hsz]; simp, fun j hj hne => ?_⟩
  rw [heap_setCell_other wr ⟨g, off + k, none⟩ j _ (fun e => hne (by simp [e]))]
  exact hgr.block j hj hne
theorem cell_row (w : World) (g j : Nat) (cur : List Value) (e : TypeId) (hg : w.heap[g]? = some (.cells cur.toArray e (0, 0))) (h : j < cur.length) : ∃ v, w.cell? ⟨g, j, none⟩ = some v :=
 ⟨cur[j], by rw [cell_of_row w g j _ e (0, 0) hg]; simp [h]⟩
def Bytes (w : World) (a : Option Addr) (len : Nat) (L : List Int) : Prop :=
 L.length = len /\ (∀ i, 0 <= L.getD i 0 /\ L.getD i 0 <= 255) /\ (0 < len -> ∃ b off, a = some ⟨b, off, none⟩ /\ b < w.heap.size /\ ∀ i, i < len -> w.cell? ⟨b, off + i, none⟩ = some (.int .u8 (L.getD i 0)))
theorem Bytes.below {w w' : World} {a : Option Addr} {len : Nat} {L : List Int} (h : Bytes w a len L) (hb : Below w.heap.size w w') : Bytes w' a len L := by
 refine ⟨h.1, h.2.1, fun hp => ?_⟩
 obtain ⟨b, off, e, hlt, hc⟩ := h.2.2 hp
 exact ⟨b, off, e, Nat.lt_of_lt_of_le hlt hb.size, fun i hi => (hb.cell hlt).trans (hc i hi)⟩
def num (L : List Int) (p : Nat) : Nat -> Int
 | 0 => 0
 | k + 1 => num L p k + L.getD (p + k) 0 * 2 ^ (8 * k)
theorem num_bd (L : List Int) (p : Nat) (hL : ∀ i, 0 <= L.getD i 0 /\ L.getD i 0 <= 255) (k : Nat) : 0 <= num L p k /\ num L p k < 2 ^ (8 * k) := by
 induction k with
 | zero => simp [num]
 | succ k ih =>
  have h := hL (p + k)
  have e : (2 : Int) ^ (8 * (k + 1)) = 256 * 2 ^ (8 * k) := by rw [show 8 * (k + 1) = 8 * k + 8 by omega, Int.pow_add]; omega
  have hp : (0 : Int) < 2 ^ (8 * k) := Int.pow_pos (by omega)
  rw [num, e]
  generalize L.getD (p + k) 0 = z at h ⊢
  have h1 : 0 <= z * 2 ^ (8 * k) := Int.mul_nonneg h.1 (by omega)
  have h2 : z * 2 ^ (8 * k) <= 255 * 2 ^ (8 * k) := Int.mul_le_mul_of_nonneg_right h.2 (by omega)
  omega
theorem or_step (k : Nat) (hk : k < 8) (t z : Int) (h : 0 <= t /\ t < 2 ^ (8 * k)) (hz : 0 <= z /\ z <= 255) : bits .or .u64 t (IntKind.u64.wrap (z * 2 ^ (8 * k))) = t + z * 2 ^ (8 * k) := by
 obtain ⟨T, rfl⟩ := Int.eq_ofNat_of_zero_le h.1
 obtain ⟨Z, rfl⟩ := Int.eq_ofNat_of_zero_le hz.1
 have hp : (Z : Int) * 2 ^ (8 * k) = ((Z * 2 ^ (8 * k) : Nat) : Int) := by simp
 have hT : T < 2 ^ (8 * k) := by
  have := h.2
  exact_mod_cast this
 have h1 : Z * 2 ^ (8 * k) <= 255 * 2 ^ 56 := Nat.mul_le_mul (by omega) (Nat.pow_le_pow_right (by omega) (by omega))
 have h2 : 2 ^ (8 * k) <= 2 ^ 56 := Nat.pow_le_pow_right (by omega) (by omega)
 rw [hp, IntKind.wrap_u64]
 have hN : Z * 2 ^ (8 * k) < 18446744073709551616 := by omega
 have hM := nat_join (8 * k) (Z * 2 ^ (8 * k)) T (Nat.mul_mod_left _ _) hT
 generalize Z * 2 ^ (8 * k) = N at *
 rw [Int.emod_eq_of_lt (by omega) (by omega), u64_or_nat T N (by omega) hN, Nat.or_comm, hM]
 omega
theorem made_row {w' : World} {base g n : Nat} (h : w'.ownsRow base 5 1 (.slice (some ⟨g, 0, none⟩) n n) n (madeCells (Value.int .u8 0).cells (n * 1)).toList) :
  w'.heap[g]? = some (.cells (List.replicate n (.int .u8 0)).toArray 5 (0, 0)) := by
 obtain ⟨h1, h2⟩ := h
 rcases h2 with ⟨h3, _⟩ | ⟨g', cap, cur, h3, _, hh, _, _, hs, ht⟩
 ·simp at h3
 ·simp only [Value.slice.injEq, Option.some.injEq, Addr.mk.injEq, and_true, true_and] at h3
  obtain ⟨rfl, rfl⟩ := h3
  have e : (Value.int .u8 0).cells = #[Value.int .u8 0] := rfl
  rw [e, toList_madeCells_one, Nat.mul_one, List.take_of_length_le (by simp at hs ⊢; omega)] at ht
  rw [hh, <- ht]
def Out (w w' : World) (a : Option Addr) (n cap : Nat) (L : List Int) : Prop :=
 L.length = n /\ w'.ownsRow w.heap.size 5 1 (.slice a n cap) n (L.map (Value.int .u8)) /\ Below w.heap.size w w'
theorem Out.of_row {w w' : World} {g n : Nat} {L : List Int} (hn : L.length = n) (hm : n <= maxLen) (hg : w.heap.size <= g) (hr : w'.heap[g]? = some (.cells (L.map (Value.int .u8)).toArray 5 (0, 0))) (hb : Below w.heap.size w w') : Out w w' (some ⟨g, 0, none⟩) n n L :=
 ⟨hn, ⟨by simp [hn], .inr ⟨g, n, _, rfl, hg, hr, Nat.le_refl _, hm, by simp [hn], List.take_of_length_le (by simp [hn])⟩⟩, hb⟩
theorem Out.bytes {w w' : World} {a : Option Addr} {n cap : Nat} {L : List Int} (h : Out w w' a n cap L) (hL : ∀ i, 0 <= L.getD i 0 /\ L.getD i 0 <= 255) : Bytes w' a n L := by
 refine ⟨h.1, hL, fun hp => ?_⟩
 have ho := h.2.1
 rcases ho.2 with ⟨_, h3⟩ | ⟨g, cap', cur, h3, _, hh, _, _, _, _⟩
 ·omega
 ·simp only [Value.slice.injEq, true_and] at h3
  obtain ⟨rfl, rfl⟩ := h3
  refine ⟨g, 0, rfl, (Array.getElem?_eq_some_iff.1 hh).1, fun i hi => ?_⟩
  rw [Nat.zero_add, ho.cellAt i (by omega)]
  have hi' : i < L.length := by rw [h.1]; exact hi
  simp [hi']
theorem bytesOf_bd (x : Int) (k : Nat) : ∀ i, 0 <= (bytesOf x k).getD i 0 /\ (bytesOf x k).getD i 0 <= 255 := by
 induction k with
 | zero => intro i; simp [bytesOf]
 | succ k ih =>
  intro i
  rw [bytesOf]
  by_cases h : i < (bytesOf x k).length
  ·have := ih i
   simpa [List.getD, List.getElem?_append_left h] using this
  ·have hb := byteAt_bd x k
   simp only [List.getD, List.getElem?_append_right (Nat.le_of_not_lt h)]
   by_cases e : i - (bytesOf x k).length = 0
   ·rw [e]; simpa using hb
   ·rw [List.getElem?_eq_none (by simp; omega)]; simp
theorem Bytes.src {w : World} {a : Option Addr} {len : Nat} {L : List Int} (h : Bytes w a len L) (hp : 0 < len) : ∃ ad, a = some ad /\ ∀ j v, (L.map (Value.int .u8))[j]? = some v -> w.cell? (ad.add j) = some v := by
 obtain ⟨b, off, rfl, _, hc⟩ := h.2.2 hp
 refine ⟨_, rfl, fun j v hj => ?_⟩
 have hlt : j < L.length := by simpa using (List.getElem?_eq_some_iff.1 hj).1
 rw [Addr.add_lit, hc j (by rw [<- h.1]; exact hlt), <- hj]
 simp [hlt]
def padTo (L : List Int) (n : Nat) : List Int := L.take n ++ List.replicate (n - L.length) 0
theorem length_padTo (L : List Int) (n : Nat) : (padTo L n).length = n := by simp [padTo]; omega
theorem splice_pad (L : List Int) (n : Nat) : splice (List.replicate n (Value.int .u8 0)) 0 ((L.take n).map (Value.int .u8)) = (padTo L n).map (Value.int .u8) := by
 simp [splice, padTo]
 omega
theorem length_cut (L : List Int) (n len : Nat) (h : L.length = len) : ((L.take n).map (Value.int .u8)).length = Nat.min len n := by
 rw [List.length_map, List.length_take, h]; exact Nat.min_comm _ _
theorem pos_cut (L : List Int) (n len : Nat) (h : L.length = len) (hp : 0 < ((L.take n).map (Value.int .u8)).length) : 0 < len := by
 rw [List.length_map, List.length_take] at hp; omega
theorem fit_cut (L : List Int) (n : Nat) : 0 + ((L.take n).map (Value.int .u8)).length <= (List.replicate n (Value.int .u8 0)).length := by
 simp; omega
theorem Bytes.src_take {w : World} {a : Option Addr} {len : Nat} {L : List Int} (h : Bytes w a len L) (n : Nat) (hp : 0 < len) : ∃ ad, a = some ad /\ ∀ j v, ((L.take n).map (Value.int .u8))[j]? = some v -> w.cell? (ad.add j) = some v := by
 obtain ⟨ad, rfl, hc⟩ := h.src hp
 refine ⟨_, rfl, fun j v hj => hc j v ?_⟩
 rw [List.map_take, List.getElem?_take] at hj
 split at hj
 ·exact hj
 ·simp at hj
def Nums (w : World) (a : Option Addr) (len : Nat) (L : List Int) : Prop :=
 L.length = len /\ (∀ i, 0 <= L.getD i 0 /\ L.getD i 0 <= 18446744073709551615) /\ (0 < len -> ∃ b off, a = some ⟨b, off, none⟩ /\ b < w.heap.size /\ ∀ i, i < len -> w.cell? ⟨b, off + i, none⟩ = some (.int .u64 (L.getD i 0)))
def sumTo (L : List Int) : Nat -> Int
 | 0 => 0
 | k + 1 => sumTo L k + L.getD k 0
theorem sumTo_mono (L : List Int) (hL : ∀ i, 0 <= L.getD i 0 /\ L.getD i 0 <= 18446744073709551615) (k n : Nat) (h : k <= n) : sumTo L k <= sumTo L n := by
 induction n with
 | zero => rw [Nat.le_zero.1 h]; exact Int.le_refl _
 | succ n ih =>
  by_cases e : k = n + 1
  ·rw [e]; exact Int.le_refl _
  ·have := ih (by omega)
   have := hL n
   rw [sumTo]; omega
theorem sumTo_nonneg (L : List Int) (hL : ∀ i, 0 <= L.getD i 0 /\ L.getD i 0 <= 18446744073709551615) (k : Nat) : 0 <= sumTo L k := sumTo_mono L hL 0 k (Nat.zero_le _)
theorem wrap_over (s z : Int) (hs : 0 <= s /\ s <= 18446744073709551615) (hz : 0 <= z /\ z <= 18446744073709551615) (h : 18446744073709551615 < s + z) : IntKind.u64.wrap (s + z) < z := by
 rw [IntKind.wrap_u64]; omega
theorem pow8 (k : Nat) : (2 : Int) ^ (8 * (k + 1)) = 256 * 2 ^ (8 * k) := by rw [show 8 * (k + 1) = 8 * k + 8 by omega, Int.pow_add]; omega
theorem bytesOf_get (x : Int) (K i : Nat) (h : i < K) : (bytesOf x K).getD i 0 = byteAt x i := by
 induction K with
 | zero => omega
 | succ K ih =>
  rw [bytesOf]
  by_cases e : i < K
  ·rw [<- ih e]
   simp only [List.getD, List.getElem?_append_left (show i < (bytesOf x K).length by rw [length_bytesOf]; exact e)]
  ·obtain rfl : i = K := by omega
   simp only [List.getD]
   rw [List.getElem?_append_right (by rw [length_bytesOf]; omega), length_bytesOf]
   simp
theorem own_later {w w' : World} {base n : Nat} {v : Value} {xs : List Value} (h : w.ownsRow base 5 1 v n xs) (hb : Below w.heap.size w w') : w'.ownsRow base 5 1 v n xs := by
 refine ⟨h.1, ?_⟩
 rcases h.2 with h3 | ⟨g, cap', cur, h3, hb', hh, r⟩
 ·exact .inl h3
 ·exact .inr ⟨g, cap', cur, h3, hb', by rw [hb.block g (Array.getElem?_eq_some_iff.1 hh).1]; exact hh, r⟩
theorem own_form {w : World} {base n : Nat} {v : Value} {xs : List Value} (h : w.ownsRow base 5 1 v n xs) : ∃ a cap, v = .slice a n cap := by
 rcases h.2 with ⟨rfl, rfl⟩ | ⟨g, cap', cur, rfl, _⟩
 ·exact ⟨_, _, rfl⟩
 ·exact ⟨_, _, rfl⟩
theorem own_bytes {w : World} {base n cap : Nat} {a : Option Addr} {L : List Int} (h : w.ownsRow base 5 1 (.slice a n cap) n (L.map (Value.int .u8))) (hL : ∀ i, 0 <= L.getD i 0 /\ L.getD i 0 <= 255) : Bytes w a n L := by
 have hn : L.length = n := by simpa using h.1
 refine ⟨hn, hL, fun hp => ?_⟩
 rcases h.2 with ⟨_, h3⟩ | ⟨g, cap', cur, h3, _, hh, _, _, _, _⟩
 ·omega
 ·simp only [Value.slice.injEq, true_and] at h3
  obtain ⟨rfl, rfl⟩ := h3
  refine ⟨g, 0, rfl, (Array.getElem?_eq_some_iff.1 hh).1, fun i hi => ?_⟩
  rw [Nat.zero_add, h.cellAt i (by omega)]
  have hi' : i < L.length := by rw [hn]; exact hi
  simp [hi']
theorem Bytes.news {w : World} {ad : Addr} {len : Nat} {L : List Int} (h : Bytes w (some ad) len L) : ∀ j u, (L.map (Value.int .u8))[j]? = some u -> w.cell? (ad.add j) = some u := by
 intro j u hj
 have hlt : j < L.length := by simpa using (List.getElem?_eq_some_iff.1 hj).1
 obtain ⟨ad', he, hc⟩ := h.src (by rw [<- h.1]; omega)
 simp only [Option.some.injEq] at he
 subst he
 exact hc j u hj
theorem own_block_le {w : World} {base n : Nat} {v : Value} {xs : List Value} (h : w.ownsRow base 5 1 v n xs) : ∀ k, v.ownBlock = some k -> base <= k := fun k hk => (h.lt k hk).1
structure Box (p : Prop) : Prop where
 out : p
def W32 (x : Int) : Prop := 0 <= x /\ x < 4294967296
theorem W32.wrap (x : Int) : W32 (x % 4294967296) := by unfold W32; omega
theorem W32.bits (op : BinOp) (x y : Int) : W32 (bits op .u32 x y) := by
 unfold Go.bits
 rw [IntKind.wrap_u32]
 exact W32.wrap _
def Byt (B : List Int) : Prop := ∀ i, 0 <= B.getD i 0 /\ B.getD i 0 <= 255
def Wrd (L : List Int) : Prop := ∀ i, W32 (L.getD i 0)
def u8s (B : List Int) : Array Value := (B.map (Value.int .u8)).toArray
def u32s (L : List Int) : Array Value := (L.map (Value.int .u32)).toArray
theorem size_u32s (L : List Int) : (u32s L).size = L.length := by simp [u32s]
theorem all_u32s (L : List Int) : (u32s L).all (·.oneCell') = true := by simp [u32s, Value.oneCell']
theorem size_u8s (L : List Int) : (u8s L).size = L.length := by simp [u8s]
theorem all_u8s (L : List Int) : (u8s L).all (·.oneCell') = true := by simp [u8s, Value.oneCell']
theorem u32s_set (L : List Int) (k : Nat) (v : Int) : (u32s L).setIfInBounds k (.int .u32 v) = u32s (L.set k v) := by simp [u32s, List.map_set]
theorem getD_app_left (X Y : List Int) (i : Nat) (h : i < X.length) : (X ++ Y).getD i 0 = X.getD i 0 := by
 simp [List.getD, List.getElem?_append_left h]
theorem getD_app (M c : List Int) (i : Nat) : (M ++ c).getD i 0 = if i < M.length then M.getD i 0 else c.getD (i - M.length) 0 := by
 by_cases h : i < M.length
 ·rw [if_pos h, getD_app_left _ _ _ h]
 ·rw [if_neg h]
  simp only [List.getD, List.getElem?_append_right (Nat.le_of_not_lt h)]
theorem getD_high0 (L : List Int) (i : Nat) (h : L.length <= i) : L.getD i 0 = 0 := by simp only [List.getD, List.getElem?_eq_none h, Option.getD_none]
theorem byt_nil : Byt [] := by intro i; simp
theorem byt_cons (v : Int) (L : List Int) (hv : 0 <= v /\ v <= 255) (h : Byt L) : Byt (v :: L) := by
 intro i
 cases i with
 | zero => simpa using hv
 | succ i => simpa using h i
theorem byt_app (A B : List Int) (hA : Byt A) (hB : Byt B) : Byt (A ++ B) := by
 intro i
 rw [getD_app]
 split
 ·exact hA i
 ·exact hB _
theorem byt_zeros (n : Nat) : Byt (List.replicate n 0) := by
 intro i
 simp only [List.getD, List.getElem?_replicate]
 split <;> simp
theorem byt_take (L : List Int) (n : Nat) (h : Byt L) : Byt (L.take n) := by
 intro i
 by_cases hi : i < n
 ·have := h i
  simpa [List.getD, List.getElem?_take, hi] using this
 ·rw [getD_high0 _ _ (by simp; omega)]; omega
theorem wrd_set (L : List Int) (k : Nat) (v : Int) (h : Wrd L) (hv : W32 v) : Wrd (L.set k v) := by
 intro i
 simp only [List.getD]
 rw [List.getElem?_set]
 split
 ·split
  ·exact hv
  ·simp [W32]
 ·exact h i
theorem wrd_nil : Wrd [] := by intro i; simp [W32]
theorem wrd_app (A B : List Int) (hA : Wrd A) (hB : Wrd B) : Wrd (A ++ B) := by
 intro i
 rw [getD_app]
 split
 ·exact hA i
 ·exact hB _
theorem wrd_one (v : Int) (hv : W32 v) : Wrd [v] := by
 intro i
 cases i with
 | zero => simpa using hv
 | succ i => simp [W32]
def fil (X : List Int) (n : Nat) : Array Value := u32s (X ++ List.replicate (n - X.length) 0)
theorem size_fil (X : List Int) (n : Nat) (h : X.length <= n) : (fil X n).size = n := by simp [fil, u32s]; omega
theorem fil_set (X : List Int) (n : Nat) (v : Int) (h : X.length < n) : (fil X n).setIfInBounds X.length (.int .u32 v) = fil (X ++ [v]) n := by
 obtain ⟨m, hm⟩ : ∃ m, n - X.length = m + 1 := ⟨n - X.length - 1, by omega⟩
 have hm' : n - (X ++ [v]).length = m := by simp; omega
 unfold fil u32s
 rw [hm, hm']
 simp [List.replicate_succ]
theorem fil_full (X : List Int) (n : Nat) (h : X.length = n) : fil X n = u32s X := by simp [fil, h]
theorem fil_some (X : List Int) (n i : Nat) (h : i < n) (hX : X.length <= n) : ∃ v, (fil X n)[i]? = some v := by
 have : i < (fil X n).size := by rw [size_fil X n hX]; exact h
 exact ⟨_, Array.getElem?_eq_getElem this⟩
def fil8 (X : List Int) (n : Nat) : Array Value := u8s (X ++ List.replicate (n - X.length) 0)
theorem size_fil8 (X : List Int) (n : Nat) (h : X.length <= n) : (fil8 X n).size = n := by simp [fil8, u8s]; omega
theorem fil8_set (X : List Int) (n : Nat) (v : Int) (h : X.length < n) : (fil8 X n).setIfInBounds X.length (.int .u8 v) = fil8 (X ++ [v]) n := by
 obtain ⟨m, hm⟩ : ∃ m, n - X.length = m + 1 := ⟨n - X.length - 1, by omega⟩
 have hm' : n - (X ++ [v]).length = m := by simp; omega
 unfold fil8 u8s
 rw [hm, hm']
 simp [List.replicate_succ]
theorem fil8_full (X : List Int) (n : Nat) (h : X.length = n) : fil8 X n = u8s X := by simp [fil8, h]
theorem fil8_some (X : List Int) (n i : Nat) (h : i < n) (hX : X.length <= n) : ∃ v, (fil8 X n)[i]? = some v := by
 have : i < (fil8 X n).size := by rw [size_fil8 X n hX]; exact h
 exact ⟨_, Array.getElem?_eq_getElem this⟩
theorem fil8_splice (X Y : List Int) (n : Nat) (h : X.length + Y.length <= n) : splice (fil8 X n).toList X.length (Y.map (Value.int .u8)) = (fil8 (X ++ Y) n).toList := by
 have e : n - X.length = Y.length + (n - X.length - Y.length) := by omega
 simp only [fil8, u8s, splice, List.map_append, List.length_append, List.length_map]
 simp only [List.map_replicate]
 rw [List.take_append_of_le_length (by simp), List.take_of_length_le (by simp), List.drop_append, List.drop_of_length_le (by simp)]
 simp only [List.length_map, List.drop_replicate, List.nil_append, List.append_assoc]
 rw [show n - X.length - (X.length + Y.length - X.length) = n - (X.length + Y.length) by omega]
theorem row_cell (w : World) (g i : Nat) (B : List Int) (t : TypeId) (fr : Nat × Nat) (hg : w.heap[g]? = some (.cells (u8s B) t fr)) (h : i < B.length) : w.cell? ⟨g, i, none⟩ = some (.int .u8 (B.getD i 0)) := by
 rw [cell_of_row _ _ _ _ _ _ hg]; simp [u8s, h]
theorem u32_cell (w : World) (g i : Nat) (X : List Int) (t : TypeId) (fr : Nat × Nat) (hg : w.heap[g]? = some (.cells (u32s X) t fr)) (h : i < X.length) : w.cell? ⟨g, i, none⟩ = some (.int .u32 (X.getD i 0)) := by
 rw [cell_of_row _ _ _ _ _ _ hg]; simp [u32s, h]
theorem al_at {w : World} {o : Obj} {S : Nat} (h : w.heap.size = S) : (w.alloc o).heap[S]? = some o := by rw [<- h]; exact heap_alloc_new w o
theorem al_old {w : World} {o x : Obj} {j : Nat} (h : w.heap[j]? = some x) : (w.alloc o).heap[j]? = some x := by
 rw [Below.heap_alloc w o j (Array.getElem?_eq_some_iff.1 h).1]; exact h
theorem bytes_of_row {w : World} {g : Nat} {X : List Int} {t : TypeId} {fr : Nat × Nat} (hX : Byt X) (hg : w.heap[g]? = some (.cells (u8s X) t fr)) : Bytes w (some ⟨g, 0, none⟩) X.length X :=
 ⟨rfl, hX, fun _ => ⟨g, 0, rfl, (Array.getElem?_eq_some_iff.1 hg).1, fun i hi => by rw [Nat.zero_add]; exact row_cell w g i X t fr hg hi⟩⟩
theorem below_to {w w1 w2 : World} (h : Below w.heap.size w w1) (k : Below w1.heap.size w1 w2) : Below w.heap.size w w2 := h.trans (k.mono h.size)
theorem below_set {S g i : Nat} {w w' : World} (h : Below S w w') (hg : S <= g) (v : Value) : Below S w (w'.setCell ⟨g, i, none⟩ v) :=
 ⟨h.os, h.tape, h.output, by simpa using h.size, fun k hk => by rw [heap_setCell_other w' ⟨g, i, none⟩ k _ (fun e => by simp at e; omega)]; exact h.block k hk⟩
theorem named (L : List Int) : ∃ X, Box (L = X) := ⟨L, ⟨rfl⟩⟩
structure But (G : Nat) (w w' : World) : Prop where
 os : w'.os = w.os
 tape : w'.tape = w.tape
 output : w'.output = w.output
 size : w.heap.size <= w'.heap.size
 block : ∀ k, k < w.heap.size -> k ≠ G -> w'.heap[k]? = w.heap[k]?
theorem But.refl (G : Nat) (w : World) : But G w w := ⟨rfl, rfl, rfl, Nat.le_refl _, fun _ _ _ => rfl⟩
theorem But.of_below {G : Nat} {w w' : World} (h : Below w.heap.size w w') : But G w w' := ⟨h.os, h.tape, h.output, h.size, fun k hk _ => h.block k hk⟩
theorem But.drew {G : Nat} {w w' : World} (h : But G w w') : But G w w'.drew := ⟨h.os, h.tape, h.output, h.size, h.block⟩
theorem But.setCell {G : Nat} {w w' : World} (h : But G w w') (o : Nat) (v : Value) : But G w (w'.setCell ⟨G, o, none⟩ v) :=
 ⟨h.os, h.tape, h.output, by simpa using h.size, fun k hk hn => by rw [heap_setCell_other w' ⟨G, o, none⟩ k _ (fun e => hn e)]; exact h.block k hk hn⟩
theorem But.below {G B : Nat} {w w' : World} (h : But G w w') (hB : B <= G) (hB2 : B <= w.heap.size) : Below B w w' := ⟨h.os, h.tape, h.output, h.size, fun k hk => h.block k (by omega) (by omega)⟩
theorem run_index_row {P : Program} {t el : TypeId} {n : Nat} {d : TypeDesc} {cs : Array Value} {v : Value} (hu : P.underlying t = some (.array n el)) (he : P.underlying el = some d) (hd : d.isRow = false) (hs : (P.info? el).map (·.size) = some 1) (k : Nat) (hk : k < n) (hv : cs[k]? = some v) (w : World) :
  (Instr.index t (.agg cs) (.int .i64 k)).run P w = .ok v w := by
 cases hq : P.info? el with
 | none => simp [hq] at hs
 | some i =>
  have hs1 : i.size = 1 := by simpa [hq] using hs
  have hagg : (isAgg el).run P w = .ok false w := by
   unfold isAgg
   rw [Sem.run_bind, run_underlying he w]
   cases d <;> simp_all [TypeDesc.isRow]
  have hc : (0 : Int) <= (k : Int) /\ (k : Int) < (n : Int) := by omega
  simp [Instr.index, asIntOf, Sem.run_bind, run_underlying hu, hc, sizeOf, typeInfo, hq, hs1, part, hagg, hv]
  intro hc2; omega
end Go.Proofs.YthfobaeafapbnaaDoor.Plain
namespace Go.Proofs.YthfobaeafapbnaaDoor
open Go.RowKit Plain
theorem str_nil : strOfNums [] = ByteArray.empty := rfl
theorem conv_zero (w : World) (a : Option Addr) (c : Nat) : (convert 63 9 (.slice a 0 c)).run Tryd.prog w = .ok (.string ByteArray.empty) w := by
 rw [run_convert_bytes_string w 63 9 5 a 0 c Tryd.underlying63 Tryd.underlying5 Tryd.underlying9]
 cases a with
 | none => simp [Conv.bytesToString]
 | some a =>
  rw [run_bytesToString w a 0 c [] (by simp [loadCells, loadCellsFrom])]
  rfl
theorem conv_bytes {w : World} {a : Option Addr} {len : Nat} {L : List Int} (h : Bytes w a len L) (cap : Nat) : (convert 63 9 (.slice a len cap)).run Tryd.prog w = .ok (.string (strOfNums L)) w := by
 by_cases h0 : len = 0
 ·subst h0
  obtain rfl : L = [] := List.eq_nil_of_length_eq_zero h.1
  rw [str_nil]
  exact conv_zero w a cap
 ·obtain ⟨b, off, rfl, _, hc⟩ := h.2.2 (by omega)
  exact run_convert_bytes_arg w 63 5 Tryd.underlying63 Tryd.underlying5 b off len cap L h.1 hc 9 Tryd.underlying9
theorem exec_conv {o : Oper} {a : Act} {w' : World} {ad : Option Addr} {len cap : Nat} {L : List Int} (x : Operand) (ho : o.op = .convert 63 9 x) (hx : a.eval x = .slice ad len cap) (hB : Bytes w' ad len L) :
  (execOp a.eval o).run Tryd.prog w' = .ok (.value (.string (strOfNums L))) w' := by
 unfold execOp
 simp only [ho, hx, Sem.run_bind, Sem.run_pure, conv_bytes hB, Result.andThen_ok]
theorem own : ownKnob Tryd.prog.godebug = none := by kernel_rfl
theorem laidOut : laidOutB Tryd.prog = true := by kernel_rfl
def IsRow (k : IntKind) (w : World) (a : Option Addr) (len cap : Nat) (zs : List Int) : Prop :=
 (a = none /\ len = 0 /\ cap = 0 /\ zs = []) ∨
 ∃ x, a = some x /\ len <= cap /\ cap <= maxLen /\ zs.length = cap /\ (∀ i, i < zs.length -> w.cell? (x.add i) = some (.int k (zs.getD i 0))) /\ ∀ n ∈ zs, (Lit.int k n).wf = true
theorem block_lt {w : World} {b o : Nat} {v : Value} (h : w.cell? ⟨b, o, none⟩ = some v) : b < w.heap.size := by
 apply Nat.lt_of_not_le
 intro hle
 simp [World.cell?, Array.getElem?_eq_none hle] at h
theorem IsRow.cells {k : IntKind} {w : World} {a : Option Addr} {len cap : Nat} {zs : List Int} (h : IsRow k w a len cap zs) :
  (zs.take len).length = len /\ (∀ n ∈ zs.take len, (Lit.int k n).wf = true) /\ (0 < len -> ∃ b off, a = some ⟨b, off, none⟩ /\ b < w.heap.size /\ ∀ i, i < len -> w.cell? ⟨b, off + i, none⟩ = some (.int k ((zs.take len).getD i 0))) := by
 rcases h with ⟨rfl, rfl, rfl, rfl⟩ | ⟨⟨b, off, spot⟩, rfl, hl, hm, hz, hcell, hwz⟩
 ·exact ⟨rfl, by simp, by omega⟩
 ·refine ⟨by rw [List.length_take]; omega, fun n hn => hwz n (List.mem_of_mem_take hn), fun hp => ?_⟩
  have h0 := hcell 0 (by omega)
  have hspot : spot = none := by simpa [Addr.add] using World.cell?_spot h0
  subst hspot
  have hc : ∀ i, i < len -> w.cell? ⟨b, off + i, none⟩ = some (.int k ((zs.take len).getD i 0)) := by
   intro i hi
   have := hcell i (by omega)
   rw [Addr.add_lit] at this
   rw [this]
   simp only [List.getD, List.getElem?_take, if_pos hi]
  exact ⟨b, off, rfl, block_lt (hc 0 hp), hc⟩
theorem IsRow.bytes {w : World} {a : Option Addr} {len cap : Nat} {zs : List Int} (h : IsRow .u8 w a len cap zs) : Bytes w a len (zs.take len) := by
 obtain ⟨h1, h2, h3⟩ := h.cells
 refine ⟨h1, fun i => ?_, h3⟩
 by_cases hi : i < (zs.take len).length
 ·have := bounds_u8 (h2 _ (List.getElem_mem hi))
  have e : (zs.take len).getD i 0 = (zs.take len)[i] := by simp only [List.getD, List.getElem?_eq_getElem hi, Option.getD_some]
  rw [e]
  omega
 ·simp [List.getD, List.getElem?_eq_none (Nat.le_of_not_lt hi)]
theorem info5 : (Tryd.prog.info? 5).map (fun i => (i.zero, i.size, i.bytes)) = some (some (.int .u8 0), 1, 1) := by kernel_rfl
theorem own_cap {w : World} {base n cap : Nat} {a : Option Addr} {xs : List Value} (h : w.ownsRow base 5 1 (.slice a n cap) n xs) : n <= cap /\ cap <= maxLen := by
 rcases h.2 with ⟨h1, h2⟩ | ⟨g, cap', cur, h1, _, _, h2, h3, _⟩
 ·simp only [Value.slice.injEq] at h1
  obtain ⟨_, rfl, rfl⟩ := h1
  exact ⟨Nat.le_refl _, Nat.zero_le _⟩
 ·simp only [Value.slice.injEq, true_and] at h1
  obtain ⟨_, rfl⟩ := h1
  exact ⟨h2, h3⟩
theorem oneCell_int (z : Int) : ∀ u ∈ [Value.int .u8 z], u.oneCell' = true := by
 intro u hu
 simp at hu
 subst hu
 rfl
theorem bytes_news {w : World} {ad : Addr} {len : Nat} {L : List Int} (h : Bytes w (some ad) len L) : ∀ j u, (L.map (Value.int .u8))[j]? = some u -> w.cell? (ad.add j) = some u := by
 intro j u hj
 have hlt : j < L.length := by simpa using (List.getElem?_eq_some_iff.1 hj).1
 obtain ⟨b, off, he, _, hc⟩ := h.2.2 (by rw [<- h.1]; omega)
 simp only [Option.some.injEq] at he
 subst he
 rw [Addr.add_lit, hc j (by rw [<- h.1]; exact hlt), <- hj]
 simp [hlt]
theorem run_append_none {w : World} {base n c : Nat} {v : Value} {xs : List Value} {ty : TypeId} (h : w.ownsRow base 5 1 v n xs) : (Builtin.append_ #[63, 63] ty #[v, .slice none 0 c]).run Tryd.prog w = .ok v w := by
 obtain ⟨i0, hi, hz0, hz1, hz2⟩ := info_parts info5
 rcases h.2 with ⟨rfl, rfl⟩ | ⟨g, cap', cur, rfl, _, _, hle, _⟩
 ·simp [Builtin.append_, run_underlying Tryd.underlying63, sizeOf, typeInfo, hi, Builtin.lenOf, Builtin.firstCells]
 ·simp [Builtin.append_, run_underlying Tryd.underlying63, sizeOf, typeInfo, hi, Builtin.lenOf, Builtin.firstCells, hle, storeCells]
theorem wpList_app {ops : Array Oper} {rest : List Oper} {o : Oper} {act : Act} {w : World} {Q : Exit -> Act -> World -> Prop} (hgd : o.guard = none) (s x : Operand)
  (ho : o.op = .call { callee := .builtin .append, args := #[s, x], argTypes := #[63, 63] }) (base n m c : Nat) (v : Value) (A L : List Int) (a : Option Addr) (w0 : World)
  (hs : act.eval s = v) (hx : act.eval x = .slice a m c) (hown : w.ownsRow base 5 1 v n (A.map (Value.int .u8))) (hb : Bytes w a m L) (hl : n + m <= 140737488355328) (hbel : Below base w0 w) (hbase : base <= w.heap.size)
  (h : ∀ v' w', Box (w'.ownsRow base 5 1 v' (n + m) ((A ++ L).map (Value.int .u8)) /\ Below base w0 w' /\ base <= w'.heap.size) -> wpList Tryd.prog ops Q rest (act.put o.dst v') w') : wpList Tryd.prog ops Q (o :: rest) act w := by
 obtain ⟨i0, hi, hz0, hz1, hz2⟩ := info_parts info5
 cases a with
 | none =>
  have hm : m = 0 := by
   by_cases hm : m = 0
   ·exact hm
   ·obtain ⟨_, _, he, _⟩ := hb.2.2 (by omega)
    cases he
  subst hm
  obtain rfl : L = [] := List.eq_nil_of_length_eq_zero hb.1
  refine wpList_plain hgd fun _ hK => ?_
  unfold Oper.wp execOp
  simp only [ho, resolve, invoke, builtin, Sem.run_bind, Sem.run_pure, Result.andThen_ok, List.map_toArray, List.map_cons, List.map_nil, hs, hx, run_append_none hown]
  exact hK _ _ (h v w ⟨by simpa using hown, hbel, hbase⟩)
 | some ad =>
  refine wpList_append_own w hgd s x 63 ho base 5 i0 (.int .u8 0) 1 1 Tryd.underlying63 hi hz0 hz1 hz2 rfl (by decide) v n _ hs hown ad m c (L.map (Value.int .u8)) hx (by simp [hb.1]) (bytes_news hb) (ints_oneCell _ _) (by unfold maxLen; omega) (by omega) hbase ?_
  intro v' w' h1 h2 _
  have := h2.size
  exact h v' w' ⟨by rw [List.map_append]; exact h1, hbel.grown h2 hbase (own_block_le hown), by omega⟩
end Go.Proofs.YthfobaeafapbnaaDoor
namespace Go.Proofs.YthfobaeafapbnaaDoor
open Go.RowKit
set_option maxHeartbeats 400000 in
theorem fits_yes (n : Int) (w : World) (h1 : 1 <= n) (h2 : n <= 8) :
  Calls Tryd.prog 62 #[.int .i64 n] w fun e w' => e = .returned (.bool true) /\ w = w' := by
 go_enter Tryd.func62, Tryd.ntmps62
 go_wp2
 go_ret
 exact ⟨rfl, rfl⟩
set_option maxHeartbeats 400000 in
theorem check_ok (a : Option Addr) (len cap : Nat) (at' n : Int) (w : World) (h1 : 1 <= n) (h2 : n <= 8) (hl : len <= maxLen) (h0 : 0 <= at') (h3 : at' + n <= (len : Int)) :
  Calls Tryd.prog 97 #[.slice a len cap, .int .i64 at', .int .i64 n] w fun e w' => e = .returned (.int .i64 0) /\ w = w' := by
 unfold maxLen at hl
 have h4 : ¬ (len : Int) - n < at' := by omega
 have h5 : ¬ at' < 0 := by omega
 go_enter Tryd.func97, Tryd.ntmps97
 go_wp2_with (go_at_call 62; refine (fits_yes _ _ h1 h2).mono ?_; rintro e w' ⟨rfl, rfl⟩)
 go_ret
 exact ⟨rfl, rfl⟩
end Go.Proofs.YthfobaeafapbnaaDoor
