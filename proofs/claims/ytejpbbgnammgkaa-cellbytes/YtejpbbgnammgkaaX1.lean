/-
  A cell, told plainly: its six fields, the cells of memory that hold it, its 96 bytes. Nothing of the program is said here but the types' numbers.
-/
import Derived.Test.YtejpbbgnammgkaaU7
import Derived.Test.YtejpbbgnammgkaaU6
import Derived.Test.YtejpbbgnammgkaaA1
import Derived.Laws.BytesArg
import Derived.Laws.Strings
import Derived.Laws.Rows
import Derived.Laws.Tables
import Derived.Laws.ResultCell
namespace Go.Proofs.Ytejpbbgnammgkaa
set_option linter.unusedVariables false
open Go.RowKit Plain

/-- A cell: Root, Version, Counter, Start, Count, Tag. -/
structure Cl where
  r : List Int
  v : Int
  c : Int
  s : Int
  n : Int
  t : List Int
/-- A number of 64 bits. -/
def U64 (x : Int) : Prop := 0 ≤ x ∧ x ≤ 18446744073709551615
structure Ok (C : Cl) : Prop where
  lr : C.r.length = 32
  br : Byt C.r
  hv : U64 C.v
  hc : U64 C.c
  hs : U64 C.s
  hn : U64 C.n
  lt : C.t.length = 32
  bt : Byt C.t
/-- The cells of memory. -/
def vs (C : Cl) : List Value := C.r.map (Value.int .u8) ++ ([.int .u64 C.v, .int .u64 C.c, .int .u64 C.s, .int .u64 C.n] ++ C.t.map (Value.int .u8))
def av (C : Cl) : Array Value := (vs C).toArray
/-- Its bytes. -/
def cb (C : Cl) : List Int := C.r ++ (bytesOf C.v 8 ++ (bytesOf C.c 8 ++ (bytesOf C.s 8 ++ (bytesOf C.n 8 ++ C.t))))
/-- The cell of 96 bytes. -/
def ofB (L : List Int) : Cl := ⟨L.take 32, num L 32 8, num L 40 8, num L 48 8, num L 56 8, (L.drop 64).take 32⟩
/-- The cell of noughts. -/
def zc : Cl := ⟨List.replicate 32 0, 0, 0, 0, 0, List.replicate 32 0⟩
theorem ok_zc : Ok zc := ⟨List.length_replicate, byt_zeros 32, ⟨by decide, by decide⟩, ⟨by decide, by decide⟩, ⟨by decide, by decide⟩, ⟨by decide, by decide⟩, List.length_replicate, byt_zeros 32⟩
theorem len_vs {C : Cl} (h : Ok C) : (vs C).length = 68 := by simp [vs, h.lr, h.lt]
theorem size_av {C : Cl} (h : Ok C) : (av C).size = 68 := by rw [av, List.size_toArray, len_vs h]
theorem all_av (C : Cl) : (av C).all (·.oneCell') = true := by simp [av, vs, Value.oneCell']
theorem len_cb {C : Cl} (h : Ok C) : (cb C).length = 96 := by simp [cb, h.lr, h.lt, length_bytesOf]
theorem byt_cb {C : Cl} (h : Ok C) : Byt (cb C) :=
  byt_app _ _ h.br (byt_app _ _ (bytesOf_bd _ 8) (byt_app _ _ (bytesOf_bd _ 8) (byt_app _ _ (bytesOf_bd _ 8) (byt_app _ _ (bytesOf_bd _ 8) h.bt))))
theorem u64_num (L : List Int) (hL : Byt L) (p : Nat) : U64 (num L p 8) := by
  have := num_bd L p hL 8
  unfold U64
  omega
theorem ok_ofB (L : List Int) (hL : Byt L) (hl : L.length = 96) : Ok (ofB L) :=
  ⟨by simp [ofB, hl], byt_take _ _ hL, u64_num L hL _, u64_num L hL _, u64_num L hL _, u64_num L hL _, by simp [ofB, hl], byt_take _ _ (byt_drop _ _ hL)⟩
theorem av_r {C : Cl} (h : Ok C) (k : Nat) (hk : k < 32) : (av C)[k]? = some (.int .u8 (C.r.getD k 0)) := by
  have hr := h.lr
  simp [av, vs, List.getElem?_append, hr, hk]
theorem av_n {C : Cl} (h : Ok C) (k : Nat) (hk : k < 4) : (av C)[32 + k]? = some (.int .u64 ([C.v, C.c, C.s, C.n].getD k 0)) := by
  have hr := h.lr
  simp only [av, vs, List.getElem?_toArray]
  rw [List.getElem?_append_right (by simp [hr]), List.length_map, hr, Nat.add_sub_cancel_left, List.getElem?_append_left (by simpa using hk)]
  match k, hk with
  | 0, _ => rfl
  | 1, _ => rfl
  | 2, _ => rfl
  | 3, _ => rfl
theorem av_t {C : Cl} (h : Ok C) (k : Nat) (hk : k < 32) : (av C)[36 + k]? = some (.int .u8 (C.t.getD k 0)) := by
  have hr := h.lr
  have ht := h.lt
  simp only [av, vs, List.getElem?_toArray]
  rw [List.getElem?_append_right (by simp [hr]; omega), List.length_map, hr, List.getElem?_append_right (by simp; omega)]
  simp [show 36 + k - 32 - 4 = k by omega, ht, hk]
/-- A cell lies in block g, from its head on. -/
def Lies (w : World) (g : Nat) (C : Cl) : Prop := w.heap[g]? = some (.cells (av C) 26 (0, 0))
theorem Lies.lt {w : World} {g : Nat} {C : Cl} (h : Lies w g C) : g < w.heap.size := (Array.getElem?_eq_some_iff.1 h).1
theorem Lies.below {w w' : World} {g : Nat} {C : Cl} (h : Lies w g C) (hb : Below w.heap.size w w') : Lies w' g C := (hb.block g h.lt).trans h
theorem Lies.on {w w' : World} {g B : Nat} {C : Cl} (h : Lies w g C) (hb : Below B w w') (hg : g < B) : Lies w' g C := (hb.block g hg).trans h
theorem Lies.cell {w : World} {g : Nat} {C : Cl} (h : Lies w g C) (k : Nat) : w.cell? ⟨g, k, none⟩ = (av C)[k]? := cell_of_row _ _ _ _ _ _ h
theorem Lies.froz {w : World} {g : Nat} {C : Cl} (h : Lies w g C) (k : Nat) : w.frozen? ⟨g, k, none⟩ = false := frozen_of_row _ _ _ _ _ h
theorem Lies.root {w : World} {g : Nat} {C : Cl} (h : Lies w g C) (hC : Ok C) : Bytes w (some ⟨g, 0, none⟩) 32 C.r :=
  ⟨hC.lr, hC.br, fun _ => ⟨g, 0, rfl, h.lt, fun i hi => by rw [Nat.zero_add, h.cell, av_r hC i hi]⟩⟩
theorem Lies.tag {w : World} {g : Nat} {C : Cl} (h : Lies w g C) (hC : Ok C) : Bytes w (some ⟨g, 36, none⟩) 32 C.t :=
  ⟨hC.lt, hC.bt, fun _ => ⟨g, 36, rfl, h.lt, fun i hi => by rw [h.cell, av_t hC i hi]⟩⟩
theorem Lies.num {w : World} {g : Nat} {C : Cl} (h : Lies w g C) (hC : Ok C) (k : Nat) (hk : k < 4) : w.cell? ⟨g, 32 + k, none⟩ = some (.int .u64 ([C.v, C.c, C.s, C.n].getD k 0)) := by rw [h.cell, av_n hC k hk]
theorem lies_new (w : World) (C : Cl) : Lies (w.alloc (.cells (av C) 26)) w.heap.size C := al_at rfl
theorem infoC : (Try.prog.info? 26).map (·.size) = some 68 := by kernel_rfl
theorem zeroC : (Try.prog.info? 26).map (·.zero) = some (some (.agg (av zc))) := by kernel_rfl
/-- Numbers and bytes, back and forth. -/
theorem num_of_app (A B : List Int) (x : Int) (p : Nat) (hp : A.length = p) (hx : U64 x) : num (A ++ (bytesOf x 8 ++ B)) p 8 = x := by
  rw [num_congr _ (bytesOf x 8) p 0 8 (fun t ht => ?_), num_bytesOf x 8 8 (Nat.le_refl _)]
  · unfold U64 at hx; omega
  · rw [getD_app, if_neg (by omega), hp, Nat.add_sub_cancel_left, getD_app_left _ _ _ (by rw [length_bytesOf]; exact ht), Nat.zero_add]
theorem ofB_cb {C : Cl} (h : Ok C) : ofB (cb C) = C := by
  obtain ⟨r, v, c, s, n, t⟩ := C
  have lr : r.length = 32 := h.lr
  have lt : t.length = 32 := h.lt
  have e0 : (cb ⟨r, v, c, s, n, t⟩).take 32 = r := by simp [cb, lr]
  have e5 : ((cb ⟨r, v, c, s, n, t⟩).drop 64).take 32 = t := by
    have : cb ⟨r, v, c, s, n, t⟩ = (r ++ (bytesOf v 8 ++ (bytesOf c 8 ++ (bytesOf s 8 ++ bytesOf n 8)))) ++ t := by simp [cb]
    rw [this, List.drop_append_of_le_length (by simp [lr, length_bytesOf]), List.drop_of_length_le (by simp [lr, length_bytesOf]), List.nil_append, List.take_of_length_le (by omega)]
  have e1 : num (cb ⟨r, v, c, s, n, t⟩) 32 8 = v := num_of_app r _ v 32 lr h.hv
  have e2 : num (cb ⟨r, v, c, s, n, t⟩) 40 8 = c := by
    have : cb ⟨r, v, c, s, n, t⟩ = (r ++ bytesOf v 8) ++ (bytesOf c 8 ++ (bytesOf s 8 ++ (bytesOf n 8 ++ t))) := by simp [cb]
    rw [this]; exact num_of_app _ _ c 40 (by simp [lr, length_bytesOf]) h.hc
  have e3 : num (cb ⟨r, v, c, s, n, t⟩) 48 8 = s := by
    have : cb ⟨r, v, c, s, n, t⟩ = (r ++ (bytesOf v 8 ++ bytesOf c 8)) ++ (bytesOf s 8 ++ (bytesOf n 8 ++ t)) := by simp [cb]
    rw [this]; exact num_of_app _ _ s 48 (by simp [lr, length_bytesOf]) h.hs
  have e4 : num (cb ⟨r, v, c, s, n, t⟩) 56 8 = n := by
    have : cb ⟨r, v, c, s, n, t⟩ = (r ++ (bytesOf v 8 ++ (bytesOf c 8 ++ bytesOf s 8))) ++ (bytesOf n 8 ++ t) := by simp [cb]
    rw [this]; exact num_of_app _ _ n 56 (by simp [lr, length_bytesOf]) h.hn
  unfold ofB
  rw [e0, e1, e2, e3, e4, e5]
theorem cb_inj {C D : Cl} (hC : Ok C) (hD : Ok D) : cb C = cb D ↔ C = D := by
  constructor
  · intro h
    rw [← ofB_cb hC, ← ofB_cb hD, h]
  · rintro rfl; rfl
theorem byteAt_num (L : List Int) (p : Nat) (hL : Byt L) (K j : Nat) (hj : j < K) : byteAt (num L p K) j = L.getD (p + j) 0 := by
  induction K with
  | zero => omega
  | succ K ih =>
    have hb := num_bd L p hL K
    have hp : (0 : Int) < 2 ^ (8 * K) := Int.pow_pos (by omega)
    have hz := hL (p + K)
    rw [num]
    by_cases e : j = K
    · subst e
      unfold byteAt
      rw [Int.add_mul_ediv_right _ _ (by omega), Int.ediv_eq_zero_of_lt hb.1 hb.2]
      omega
    · have hlt : j < K := by omega
      rw [← ih hlt]
      unfold byteAt
      have hK : (2 : Int) ^ (8 * K) = 2 ^ (8 * j) * (256 * 2 ^ (8 * (K - j - 1))) := by
        rw [← pow8, ← Int.pow_add]
        congr 1; omega
      rw [hK, show L.getD (p + K) 0 * (2 ^ (8 * j) * (256 * 2 ^ (8 * (K - j - 1)))) = 2 ^ (8 * j) * (256 * (L.getD (p + K) 0 * 2 ^ (8 * (K - j - 1)))) by
        rw [Int.mul_left_comm, Int.mul_left_comm (L.getD (p + K) 0) 256], Int.add_mul_ediv_left _ _ (Int.ne_of_gt (Int.pow_pos (by omega))), Int.add_mul_emod_self_left]
theorem bytesOf_num (L : List Int) (p : Nat) (hL : Byt L) (hl : p + 8 ≤ L.length) : bytesOf (num L p 8) 8 = (L.drop p).take 8 := by
  refine eq_getD _ _ 8 (length_bytesOf _ _) (by simp; omega) (fun i hi => ?_)
  rw [bytesOf_get _ _ _ hi, byteAt_num L p hL 8 i hi]
  simp [List.getD, hi]
theorem cb_ofB (L : List Int) (hL : Byt L) (hl : L.length = 96) : cb (ofB L) = L := by
  have key : ∀ p, p + 8 ≤ 96 → bytesOf (num L p 8) 8 = (L.drop p).take 8 := fun p hp => bytesOf_num L p hL (by omega)
  show L.take 32 ++ (bytesOf (num L 32 8) 8 ++ (bytesOf (num L 40 8) 8 ++ (bytesOf (num L 48 8) 8 ++ (bytesOf (num L 56 8) 8 ++ (L.drop 64).take 32)))) = L
  rw [key 32 (by omega), key 40 (by omega), key 48 (by omega), key 56 (by omega)]
  have st : ∀ p q, (L.drop p).take q ++ L.drop (p + q) = L.drop p := fun p q => by rw [← List.drop_drop, List.take_append_drop]
  rw [List.take_of_length_le (show (L.drop 64).length ≤ 32 by simp; omega), st 56 8, st 48 8, st 40 8, st 32 8, List.take_append_drop]
end Go.Proofs.Ytejpbbgnammgkaa
