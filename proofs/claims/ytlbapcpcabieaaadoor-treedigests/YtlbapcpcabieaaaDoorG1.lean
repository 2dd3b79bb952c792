/-
  A node, told plainly: its refs, their bytes, the cells of memory that hold them, there and back. Nothing of the program is said here.
-/
import Derived.Test.YtlbapcpcabieaaaDoorA1
namespace Go.Proofs.YtlbapcpcabieaaaDoor.Plain
set_option linter.unusedVariables false
open Go.RowKit

/-- A ref: a digest's bytes, and a stamp. -/
structure Rf where
  d : List Int
  s : Int
/-- A number of 64 bits. -/
def N64 (x : Int) : Prop := 0 ≤ x ∧ x ≤ 18446744073709551615
structure OkR (r : Rf) : Prop where
  ld : r.d.length = 32
  bd : Byt r.d
  hs : N64 r.s
/-- A ref's bytes, and those of a row of refs. -/
def rb (r : Rf) : List Int := r.d ++ bytesOf r.s 8
def nb : List Rf → List Int
  | [] => []
  | r :: N => rb r ++ nb N
/-- A ref's cells, and those of a row of refs. -/
def rc (r : Rf) : List Value := r.d.map (Value.int .u8) ++ [.int .u64 r.s]
def nc : List Rf → List Value
  | [] => []
  | r :: N => rc r ++ nc N
def OkN (N : List Rf) : Prop := ∀ r ∈ N, OkR r
theorem OkN.tail {r : Rf} {N : List Rf} (h : OkN (r :: N)) : OkN N := fun x hx => h x (List.mem_cons_of_mem _ hx)
theorem OkN.head {r : Rf} {N : List Rf} (h : OkN (r :: N)) : OkR r := h r List.mem_cons_self
theorem OkN.get {N : List Rf} (h : OkN N) (i : Nat) (hi : i < N.length) : OkR N[i] := h _ (List.getElem_mem hi)
theorem len_rb {r : Rf} (h : OkR r) : (rb r).length = 40 := by simp [rb, h.ld, length_bytesOf]
theorem len_rc {r : Rf} (h : OkR r) : (rc r).length = 33 := by simp [rc, h.ld]
theorem byt_rb {r : Rf} (h : OkR r) : Byt (rb r) := byt_app _ _ h.bd (bytesOf_bd _ 8)
theorem len_nb : ∀ {N : List Rf}, OkN N → (nb N).length = 40 * N.length
  | [], _ => rfl
  | r :: N, h => by rw [nb, List.length_append, len_rb h.head, len_nb h.tail, List.length_cons]; omega
theorem len_nc : ∀ {N : List Rf}, OkN N → (nc N).length = 33 * N.length
  | [], _ => rfl
  | r :: N, h => by rw [nc, List.length_append, len_rc h.head, len_nc h.tail, List.length_cons]; omega
theorem byt_nb : ∀ {N : List Rf}, OkN N → Byt (nb N)
  | [], _ => byt_nil
  | r :: N, h => byt_app _ _ (byt_rb h.head) (byt_nb h.tail)
theorem nb_app (M N : List Rf) : nb (M ++ N) = nb M ++ nb N := by
  induction M with
  | nil => rfl
  | cons r M ih => rw [List.cons_append, nb, nb, ih, List.append_assoc]
theorem nc_app (M N : List Rf) : nc (M ++ N) = nc M ++ nc N := by
  induction M with
  | nil => rfl
  | cons r M ih => rw [List.cons_append, nc, nc, ih, List.append_assoc]
theorem nb_drop {N : List Rf} (h : OkN N) (i : Nat) : (nb N).drop (40 * i) = nb (N.drop i) := by
  by_cases hi : i ≤ N.length
  · have e : nb N = nb (N.take i) ++ nb (N.drop i) := by rw [← nb_app, List.take_append_drop]
    have hl : (nb (N.take i)).length = 40 * i := by
      rw [len_nb (fun r hr => h r (List.mem_of_mem_take hr)), List.length_take]
      omega
    rw [e, List.drop_append_of_le_length (by omega), List.drop_of_length_le (by omega), List.nil_append]
  · rw [List.drop_of_length_le (by rw [len_nb h]; omega), List.drop_of_length_le (by omega)]
    rfl
theorem nb_take {N : List Rf} (h : OkN N) (i : Nat) : (nb N).take (40 * i) = nb (N.take i) := by
  by_cases hi : i ≤ N.length
  · have e : nb N = nb (N.take i) ++ nb (N.drop i) := by rw [← nb_app, List.take_append_drop]
    have hl : (nb (N.take i)).length = 40 * i := by
      rw [len_nb (fun r hr => h r (List.mem_of_mem_take hr)), List.length_take]
      omega
    rw [e, List.take_append_of_le_length (by omega), List.take_of_length_le (by omega)]
  · rw [List.take_of_length_le (by rw [len_nb h]; omega), List.take_of_length_le (by omega)]
/-- From the ref number i on. -/
theorem nb_at {N : List Rf} (h : OkN N) (i : Nat) (hi : i < N.length) : (nb N).drop (40 * i) = N[i].d ++ (bytesOf N[i].s 8 ++ nb (N.drop (i + 1))) := by
  rw [nb_drop h, List.drop_eq_getElem_cons hi, nb, rb, List.append_assoc]
theorem nb_sum {N : List Rf} (h : OkN N) (i : Nat) (hi : i < N.length) : ((nb N).drop (40 * i)).take 32 = N[i].d := by
  rw [nb_at h i hi, List.take_append_of_le_length (by rw [(h.get i hi).ld]; exact Nat.le_refl _), List.take_of_length_le (by rw [(h.get i hi).ld]; exact Nat.le_refl _)]
theorem nb_stamp {N : List Rf} (h : OkN N) (i : Nat) (hi : i < N.length) : ((nb N).drop (40 * i + 32)).take 8 = bytesOf N[i].s 8 := by
  have hd := (h.get i hi).ld
  rw [← List.drop_drop, nb_at h i hi, List.drop_append_of_le_length (by omega), List.drop_of_length_le (by omega), List.nil_append, List.take_append_of_le_length (by rw [length_bytesOf]; exact Nat.le_refl _), List.take_of_length_le (by rw [length_bytesOf]; exact Nat.le_refl _)]
theorem num_drop (L : List Int) (p q k : Nat) : num (L.drop p) q k = num L (p + q) k := num_congr _ _ _ _ _ fun t _ => by simp [List.getD, Nat.add_assoc]
theorem num_take (L : List Int) (k : Nat) : num (L.take k) 0 k = num L 0 k := num_congr _ _ _ _ _ fun t ht => by simp [List.getD, ht]
theorem num_back (x : Int) (hx : N64 x) : num (bytesOf x 8) 0 8 = x := by
  rw [num_bytesOf x 8 8 (Nat.le_refl _)]
  unfold N64 at hx
  omega
theorem bytesOf_inj (x y : Int) (hx : N64 x) (hy : N64 y) : bytesOf x 8 = bytesOf y 8 ↔ x = y := by
  constructor
  · intro h
    rw [← num_back x hx, ← num_back y hy, h]
  · rintro rfl; rfl
/-- The ref number i of bytes, and the first n. -/
def rfAt (B : List Int) (i : Nat) : Rf := ⟨(B.drop (40 * i)).take 32, num B (40 * i + 32) 8⟩
def ofN (B : List Int) : Nat → List Rf
  | 0 => []
  | n + 1 => ofN B n ++ [rfAt B n]
theorem len_ofN (B : List Int) (n : Nat) : (ofN B n).length = n := by
  induction n with
  | zero => rfl
  | succ n ih => simp [ofN, ih]
theorem rfAt_nb {N : List Rf} (h : OkN N) (i : Nat) (hi : i < N.length) : rfAt (nb N) i = N[i] := by
  have hs : num (nb N) (40 * i + 32) 8 = N[i].s := by
    have h1 := num_take ((nb N).drop (40 * i + 32)) 8
    rw [nb_stamp h i hi, num_drop, num_back _ (h.get i hi).hs] at h1
    exact h1.symm
  unfold rfAt
  rw [nb_sum h i hi, hs]
theorem ofN_nb {N : List Rf} (h : OkN N) : ∀ n, n ≤ N.length → ofN (nb N) n = N.take n
  | 0, _ => rfl
  | n + 1, hn => by rw [ofN, ofN_nb h n (by omega), rfAt_nb h n hn, List.take_add_one, List.getElem?_eq_getElem hn]; rfl
theorem okR_at (B : List Int) (hB : Byt B) (i : Nat) (hi : 40 * i + 40 ≤ B.length) : OkR (rfAt B i) :=
  ⟨by simp [rfAt]; omega, byt_take _ _ (byt_drop _ _ hB), by have := num_bd B (40 * i + 32) hB 8; unfold rfAt N64; simp only; omega⟩
theorem okN_of (B : List Int) (hB : Byt B) : ∀ n, 40 * n ≤ B.length → OkN (ofN B n)
  | 0, _ => fun r hr => absurd hr (by simp [ofN])
  | n + 1, hn => fun r hr => by
    rw [ofN, List.mem_append] at hr
    rcases hr with hr | hr
    · exact okN_of B hB n (by omega) r hr
    · rw [List.mem_singleton] at hr
      subst hr
      exact okR_at B hB n (by omega)
theorem byteAt_num (L : List Int) (p : Nat) (hL : Byt L) (K j : Nat) (hj : j < K) : byteAt (num L p K) j = L.getD (p + j) 0 := by
  induction K with
  | zero => omega
  | succ K ih =>
    have hb := num_bd L p hL K
    have hp : (0 : Int) < 2 ^ (8 * K) := Int.pow_pos (by omega)
    have hz := hL (p + K)
    rw [num]
    by_cases e : j = K
    · subst e
      unfold byteAt
      rw [Int.add_mul_ediv_right _ _ (by omega), Int.ediv_eq_zero_of_lt hb.1 hb.2]
      omega
    · have hlt : j < K := by omega
      rw [← ih hlt]
      unfold byteAt
      have hK : (2 : Int) ^ (8 * K) = 2 ^ (8 * j) * (256 * 2 ^ (8 * (K - j - 1))) := by
        rw [← pow8, ← Int.pow_add]
        congr 1; omega
      rw [hK, show L.getD (p + K) 0 * (2 ^ (8 * j) * (256 * 2 ^ (8 * (K - j - 1)))) = 2 ^ (8 * j) * (256 * (L.getD (p + K) 0 * 2 ^ (8 * (K - j - 1)))) by
        rw [Int.mul_left_comm, Int.mul_left_comm (L.getD (p + K) 0) 256], Int.add_mul_ediv_left _ _ (Int.ne_of_gt (Int.pow_pos (by omega))), Int.add_mul_emod_self_left]
theorem bytesOf_num (L : List Int) (p : Nat) (hL : Byt L) (hl : p + 8 ≤ L.length) : bytesOf (num L p 8) 8 = (L.drop p).take 8 := by
  refine eq_getD _ _ 8 (length_bytesOf _ _) (by simp; omega) (fun i hi => ?_)
  rw [bytesOf_get _ _ _ hi, byteAt_num L p hL 8 i hi]
  simp [List.getD, hi]
theorem rb_at (B : List Int) (hB : Byt B) (i : Nat) (hi : 40 * i + 40 ≤ B.length) : rb (rfAt B i) = (B.drop (40 * i)).take 40 := by
  unfold rb rfAt
  rw [bytesOf_num B _ hB (by omega), ← List.drop_drop, ← List.take_add]
theorem nb_ofN (B : List Int) (hB : Byt B) : ∀ n, 40 * n ≤ B.length → nb (ofN B n) = B.take (40 * n)
  | 0, _ => by simp [ofN, nb]
  | n + 1, hn => by
    rw [ofN, nb_app, nb_ofN B hB n (by omega), nb, nb, List.append_nil, rb_at B hB n (by omega), Nat.mul_succ, List.take_add]
/-- Another ref at one place. -/
theorem okN_set {N : List Rf} (h : OkN N) (i : Nat) (r : Rf) (hr : OkR r) : OkN (N.set i r) := by
  intro x hx
  rcases List.mem_or_eq_of_mem_set hx with hx | hx
  · exact h x hx
  · subst hx; exact hr
theorem nb_set_take {N : List Rf} (h : OkN N) (i : Nat) (r : Rf) (hr : OkR r) : (nb (N.set i r)).take (40 * i) = (nb N).take (40 * i) := by
  rw [nb_take (okN_set h i r hr), nb_take h, List.take_set_of_le (Nat.le_refl _)]
theorem nb_set_drop {N : List Rf} (h : OkN N) (i : Nat) (r : Rf) (hr : OkR r) : (nb (N.set i r)).drop (40 * (i + 1)) = (nb N).drop (40 * (i + 1)) := by
  rw [nb_drop (okN_set h i r hr), nb_drop h, List.drop_set_of_lt (by omega)]
/-- Where a ref's cells stand among a row's. -/
theorem nc_at : ∀ {N : List Rf}, OkN N → ∀ i, (hi : i < N.length) → ∀ k, k < 33 → (nc N)[33 * i + k]? = (rc N[i])[k]?
  | [], _, i, hi, k, _ => by simp at hi
  | r :: N, h, 0, hi, k, hk => by
    rw [nc, Nat.mul_zero, Nat.zero_add, List.getElem?_append_left (by rw [len_rc h.head]; exact hk)]
    rfl
  | r :: N, h, i + 1, hi, k, hk => by
    rw [nc, List.getElem?_append_right (by rw [len_rc h.head]; omega), len_rc h.head, show 33 * (i + 1) + k - 33 = 33 * i + k by omega]
    exact nc_at h.tail i (by simpa using hi) k hk
theorem rc_sum {r : Rf} (h : OkR r) (k : Nat) (hk : k < 32) : (rc r)[k]? = some (.int .u8 (r.d.getD k 0)) := by
  have hd := h.ld
  rw [rc, List.getElem?_append_left (by simp [hd, hk])]
  simp [hd, hk]
theorem rc_stamp {r : Rf} (h : OkR r) : (rc r)[32]? = some (.int .u64 r.s) := by
  rw [rc, List.getElem?_append_right (by simp [h.ld])]
  simp [h.ld]
theorem nc_sum {N : List Rf} (h : OkN N) (i : Nat) (hi : i < N.length) (k : Nat) (hk : k < 32) : (nc N)[33 * i + k]? = some (.int .u8 (N[i].d.getD k 0)) := by
  rw [nc_at h i hi k (by omega), rc_sum (h.get i hi) k hk]
theorem nc_stamp {N : List Rf} (h : OkN N) (i : Nat) (hi : i < N.length) : (nc N)[33 * i + 32]? = some (.int .u64 N[i].s) := by
  rw [nc_at h i hi 32 (by omega), rc_stamp (h.get i hi)]
theorem nc_one : ∀ (N : List Rf), (nc N).toArray.all (·.oneCell') = true
  | [] => by simp [nc]
  | r :: N => by
    have := nc_one N
    simp [nc, rc, Value.oneCell'] at this ⊢
    exact this
end Go.Proofs.YtlbapcpcabieaaaDoor.Plain
