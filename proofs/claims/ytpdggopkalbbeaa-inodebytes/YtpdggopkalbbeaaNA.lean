/-
  What serves every text of this seat: bytes padded, held against each other, appended; a number put and got. An inode told plainly: its cells, its 32 bytes, and back.
-/
import Derived.Test.YtpdggopkalbbeaaR0
import Derived.Test.YtpdggopkalbbeaaU7
import Derived.Test.YtpdggopkalbbeaaU6
import Derived.Test.YtpdggopkalbbeaaU3
import Derived.Lib.SlBytesConst
import Derived.Laws.Append
namespace Go.Proofs.Ytpdggopkalbbeaa
set_option linter.unusedVariables false
open Go.RowKit Plain

theorem size5 : (Try.prog.info? 5).map (·.size) = some 1 := by kernel_rfl
set_option maxHeartbeats 400000 in
theorem pad_ok (a : Option Addr) (len cap : Nat) (L : List Int) (n : Nat) (w : World) (hb : Bytes w a len L) (h1 : 1 ≤ n) (h2 : n ≤ 2147483648) :
    Calls Try.prog 18 #[.slice a len cap, .int .i64 n] w fun e w' => ∃ g, e = .returned (.slice (some ⟨g, 0, none⟩) n n) ∧ Out w w' (some ⟨g, 0, none⟩) n n (padTo L n) := by
  obtain ⟨i0, hi, hz0, hz1, hz2⟩ := info_parts info5
  have hlm : n ≤ maxLen := by unfold maxLen; omega
  have hLl := hb.1
  have hn1 : ¬ (n : Int) < 1 := by omega
  have hn2 : ¬ (2147483648 : Int) < (n : Int) := by omega
  go_enter Try.func18, Try.ntmps18
  go_wp2_with (first | (at_make; refine wpList_make_full _ rfl (.tmp 13) (.tmp 13) 27 rfl _ 5 i0 (.int .u8 0) 1 Try.underlying27 hi hz0 hz1 _ _ _ _ n rfl rfl rfl rfl (by rw [hz2]; omega) hlm (Nat.le_refl _) ?_; intro w1 hown hgrow; have HR := made_row hown; clear hown; have hbl := (Below.refl w.heap.size w).grown hgrow (Nat.le_refl _) (by simp); have hb1 := hb.below hbl) | (refine wpList_copy_splice rfl (.tmp 15) (.tmp 16) 27 27 rfl 5 Try.underlying27 size5 _ _ _ _ _ _ rfl rfl w.heap.size 0 _ 5 HR ((L.take n).map (Value.int .u8)) (length_cut L n len hLl) (fun h => ⟨rfl, hb1.src_take n (pos_cut L n len hLl h)⟩) (fit_cut L n) (ints_oneCell _ _) w.heap.size w hbl (Nat.le_refl _) ?_; intro w2 HG2 hB2))
  have HG := HG2.out
  rw [splice_pad L n] at HG
  clear HR hgrow HG2 hb1 hb
  go_ret
  exact ⟨_, rfl, Out.of_row (length_padTo L n) hlm (Nat.le_refl _) HG hB2⟩
theorem own_lit (w : World) (A : List Int) (B : Nat) (hB : B ≤ w.heap.size) (hA : A.length ≤ maxLen) : (w.alloc (.cells (u8s A) 5)).ownsRow B 5 1 (.slice (some ⟨w.heap.size, 0, none⟩) A.length A.length) A.length (A.map (Value.int .u8)) := by
  refine ⟨by simp, .inr ⟨w.heap.size, A.length, _, rfl, hB, al_at rfl, Nat.le_refl _, hA, by simp [u8s], by simp [u8s, List.take_of_length_le]⟩⟩
/-- Bytes appended to a row that has no room: the row that comes is the call's own. -/
theorem wpList_appG {ops : Array Oper} {rest : List Oper} {o : Oper} {act : Act} {w : World} {Q : Exit → Act → World → Prop} (hgd : o.guard = none) (s x : Operand)
    (ho : o.op = .call { callee := .builtin .append, args := #[s, x], argTypes := #[27, 27] }) (base n m c : Nat) (A L : List Int) (a a2 : Addr) (w0 : World)
    (hs : act.eval s = .slice (some a) n n) (hx : act.eval x = .slice (some a2) m c) (hA : Bytes w (some a) n A) (hb : Bytes w (some a2) m L) (hm : 1 ≤ m) (hl : n + m ≤ 140737488355328) (hbel : Below base w0 w) (hbase : base ≤ w.heap.size)
    (h : ∀ v' w', Box (w'.ownsRow base 5 1 v' (n + m) ((A ++ L).map (Value.int .u8)) ∧ Below base w0 w' ∧ base ≤ w'.heap.size) → wpList Try.prog ops Q rest (act.put o.dst v') w') : wpList Try.prog ops Q (o :: rest) act w := by
  obtain ⟨i0, hi, hz0, hz1, hz2⟩ := info_parts info5
  have hrun := run_append_grow (P := Try.prog) w 27 o.type 5 i0 (.int .u8 0) Try.underlying27 hi hz0 a n n (A.map (Value.int .u8)) (by rw [hz1]; simp [hA.1]) (bytes_news hA)
    a2 m c (L.map (Value.int .u8)) (by rw [hz1]; simp [hb.1]) (bytes_news hb) (by omega) (by omega) (by rw [hz2]; exact growslice_fits (by omega) (by omega))
  have hge := grownCap_ge w (n + m) n 5
  have hle := grownCap_le_maxLen w (n + m) n 5 (by unfold maxLen; omega)
  have e0 : (Value.int .u8 0).cells = #[Value.int .u8 0] := rfl
  have hlA := hA.1
  have hlL := hb.1
  refine wpList_plain hgd fun _ hK => ?_
  unfold Oper.wp execOp
  simp only [ho, resolve, invoke, builtin, Sem.run_bind, Sem.run_pure, Result.andThen_ok, List.map_toArray, List.map_cons, List.map_nil, hs, hx, hrun]
  refine hK _ _ (h _ _ ⟨⟨by simp [hlA, hlL], .inr ⟨w.heap.size, _, _, rfl, hbase, al_at rfl, hge, hle, ?_, ?_⟩⟩, hbel.drew.alloc hbase _, ?_⟩)
  · simp [e0, Builtin.zeroCells, hlA, hlL]; omega
  · simp [hlA, hlL, List.take_append, List.take_of_length_le]
  · simp; omega
theorem byt_lits (w : World) (A : List Int) (hA : Byt A) (k : Nat × Nat) : Bytes (w.alloc (.cells (u8s A) 5 k)) (some ⟨w.heap.size, 0, none⟩) A.length A := bytes_of_row hA (al_at rfl)
set_option maxHeartbeats 400000 in
theorem equal_any (a b : Option Addr) (n m ca cb : Nat) (A B : List Int) (c : Bool) (w : World) (hA : Bytes w a n A) (hB : Bytes w b m B) (hc : decide (A = B) = c) :
    Calls Try.prog 20 #[.slice a n ca, .slice b m cb] w fun e w' => e = .returned (.bool c) ∧ w = w' := by
  subst hc
  have ba := hA.2.1
  have bb := hB.2.1
  go_enter Try.func20, Try.ntmps20
  go_wp2_with (first
    | (refine wpList_run rfl _ _ (exec_conv (.tmp 5) rfl rfl hA) ?_)
    | (refine wpList_run rfl _ _ (exec_conv (.tmp 7) rfl rfl hB) ?_)
    | (refine wpList_run rfl _ _ (exec_str (.tmp 6) (.tmp 8) _ rfl A B ba bb rfl rfl) ?_))
  go_ret
  exact ⟨rfl, rfl⟩
theorem byteAt_num (L : List Int) (p : Nat) (hL : Byt L) (K j : Nat) (hj : j < K) : byteAt (num L p K) j = L.getD (p + j) 0 := by
  induction K with
  | zero => omega
  | succ K ih =>
    have hb := num_bd L p hL K
    have hp : (0 : Int) < 2 ^ (8 * K) := Int.pow_pos (by omega)
    have hz := hL (p + K)
    rw [num]
    by_cases e : j = K
    · subst e
      unfold byteAt
      rw [Int.add_mul_ediv_right _ _ (by omega), Int.ediv_eq_zero_of_lt hb.1 hb.2]
      omega
    · have hlt : j < K := by omega
      rw [← ih hlt]
      unfold byteAt
      have hK : (2 : Int) ^ (8 * K) = 2 ^ (8 * j) * (256 * 2 ^ (8 * (K - j - 1))) := by
        rw [← pow8, ← Int.pow_add]
        congr 1; omega
      rw [hK, show L.getD (p + K) 0 * (2 ^ (8 * j) * (256 * 2 ^ (8 * (K - j - 1)))) = 2 ^ (8 * j) * (256 * (L.getD (p + K) 0 * 2 ^ (8 * (K - j - 1)))) by
        rw [Int.mul_left_comm, Int.mul_left_comm (L.getD (p + K) 0) 256], Int.add_mul_ediv_left _ _ (Int.ne_of_gt (Int.pow_pos (by omega))), Int.add_mul_emod_self_left]
theorem box_below (w : World) (o : Obj) : Below w.heap.size w (w.alloc o) := (Below.refl _ _).alloc (Nat.le_refl _) _
theorem lt_of_row {w : World} {g : Nat} {o : Obj} (h : w.heap[g]? = some o) : g < w.heap.size := (Array.getElem?_eq_some_iff.1 h).1
theorem below_setRow' {S : Nat} {w w' : World} (h : Below S w w') (cs : Array Value) : Below S w (w'.setRow S cs) :=
  ⟨h.os, h.tape, h.output, by simpa using h.size, fun k hk => by rw [setRow_other w' S k _ (by omega)]; exact h.block k hk⟩
theorem put_n (x : Int) (n : Nat) (w : World) (h0 : 0 ≤ x) (h1 : x ≤ 18446744073709551615) (h2 : 1 ≤ n) (h3 : n ≤ 8) :
    Calls Try.prog 16 #[.int .u64 x, .int .i64 n] w fun e w' => ∃ g, e = .returned (.slice (some ⟨g, 0, none⟩) n n) ∧ Bytes w' (some ⟨g, 0, none⟩) n (bytesOf x n) ∧ Below w.heap.size w w' :=
  (put_ok x n w h0 h1 h2 h3).mono fun e w' ⟨g, he, ho⟩ => ⟨g, he, ho.bytes (bytesOf_bd x n), ho.2.2⟩
theorem rput_n (x : Int) (n : Nat) (w : World) (h0 : 0 ≤ x) (h1 : x ≤ 18446744073709551615) (h2 : 1 ≤ n) (h3 : n ≤ 8) :
    Calls Try.prog 22 #[.int .u64 x, .int .i64 n] w fun e w' => ∃ g o c, e = .returned (.slice (some ⟨g, o, none⟩) n c) ∧ Bytes w' (some ⟨g, o, none⟩) n (bytesOf x n) ∧ Below w.heap.size w w' :=
  (rput_any x n n w ⟨h0, h1⟩ (by omega) (by omega)).mono fun e w' ⟨a, c, he, ho⟩ => by
    have hb := ho.bytes (bytesOf_bd x n)
    obtain ⟨g, o, rfl, _⟩ := hb.2.2 (by omega)
    exact ⟨g, o, c, he, hb, ho.2.2⟩
/-- An inode: its kind, links, size, and its five numbers of blocks. -/
structure Nd where
  k : Int
  l : Int
  z : Int
  a : Int
  b : Int
  c : Int
  s : Int
  d : Int
def ns (N : Nd) : List Int := [N.a, N.b, N.c, N.s, N.d]
def U16 (x : Int) : Prop := 0 ≤ x ∧ x ≤ 65535
structure OkN (N : Nd) : Prop where
  hk : 0 ≤ N.k ∧ N.k ≤ 255
  hl : U16 N.l
  hz : 0 ≤ N.z ∧ N.z ≤ 4294967295
  hn : ∀ i, U16 ((ns N).getD i 0)
theorem okN_of {N : Nd} (hk : 0 ≤ N.k ∧ N.k ≤ 255) (hl : U16 N.l) (hz : 0 ≤ N.z ∧ N.z ≤ 4294967295) (ha : U16 N.a) (hb : U16 N.b) (hc : U16 N.c) (hs : U16 N.s) (hd : U16 N.d) : OkN N :=
  ⟨hk, hl, hz, fun i => by
    match i with
    | 0 => exact ha
    | 1 => exact hb
    | 2 => exact hc
    | 3 => exact hs
    | 4 => exact hd
    | i + 5 => exact ⟨by simp [ns], by simp [ns]⟩⟩
/-- Its cells of memory. -/
def nc (N : Nd) : Array Value := #[.int .u8 N.k, .int .u16 N.l, .int .u32 N.z, .int .u16 N.a, .int .u16 N.b, .int .u16 N.c, .int .u16 N.s, .int .u16 N.d]
theorem size_nc (N : Nd) : (nc N).size = 8 := rfl
theorem one_nc (N : Nd) : (nc N).all (·.oneCell') = true := by simp [nc, Value.oneCell']
theorem nc_num (N : Nd) (i : Nat) (h : i < 5) : (nc N)[3 + i]? = some (.int .u16 ((ns N).getD i 0)) := by
  match i, h with
  | 0, _ => rfl
  | 1, _ => rfl
  | 2, _ => rfl
  | 3, _ => rfl
  | 4, _ => rfl
def zn : Nd := ⟨0, 0, 0, 0, 0, 0, 0, 0⟩
theorem ok_zn : OkN zn := okN_of ⟨by decide, by decide⟩ ⟨by decide, by decide⟩ ⟨by decide, by decide⟩ ⟨by decide, by decide⟩ ⟨by decide, by decide⟩ ⟨by decide, by decide⟩ ⟨by decide, by decide⟩ ⟨by decide, by decide⟩
/-- An inode with another number at place i. -/
def setB (N : Nd) (i : Nat) (x : Int) : Nd :=
  match i with
  | 0 => { N with a := x }
  | 1 => { N with b := x }
  | 2 => { N with c := x }
  | 3 => { N with s := x }
  | _ => { N with d := x }
theorem nc_set (N : Nd) (i : Nat) (h : i < 5) (x : Int) : (nc N).setIfInBounds (3 + i) (.int .u16 x) = nc (setB N i x) := by
  match i, h with
  | 0, _ => rfl
  | 1, _ => rfl
  | 2, _ => rfl
  | 3, _ => rfl
  | 4, _ => rfl
/-- Its bytes. -/
def nb0 (N : Nd) : List Int := [N.k, 0] ++ bytesOf N.l 2 ++ bytesOf N.z 4
def nb (N : Nd) : List Int := padTo (nb0 N ++ rowsOf (ns N) 2 5) 32
theorem length_nb0 (N : Nd) : (nb0 N).length = 8 := by simp [nb0, length_bytesOf]
theorem length_nb (N : Nd) : (nb N).length = 32 := length_padTo _ _
theorem byt_nb0 {N : Nd} (h : OkN N) : Byt (nb0 N) := byt_app _ _ (byt_app _ _ (byt_cons _ _ h.hk (byt_cons _ _ (by omega) byt_nil)) (bytesOf_bd _ 2)) (bytesOf_bd _ 4)
theorem byt_nb {N : Nd} (h : OkN N) : Byt (nb N) := byt_app _ _ (byt_take _ _ (byt_app _ _ (byt_nb0 h) (rowsOf_bd _ 2 5))) (byt_zeros _)
theorem nb_eq (N : Nd) : nb N = nb0 N ++ rowsOf (ns N) 2 5 ++ List.replicate 14 0 := by
  have h := length_nb0 N
  have h2 := length_rowsOf (ns N) 2 5
  unfold nb padTo
  have e : (nb0 N ++ rowsOf (ns N) 2 5).length = 18 := by rw [List.length_append]; omega
  rw [e, List.take_of_length_le (by omega)]
theorem nb_parts (N : Nd) : nb N = [N.k] ++ ([0] ++ (bytesOf N.l 2 ++ (bytesOf N.z 4 ++ ((bytesOf N.a 2 ++ bytesOf N.b 2 ++ bytesOf N.c 2) ++ (bytesOf N.s 2 ++ (bytesOf N.d 2 ++ List.replicate 14 0)))))) := by
  rw [nb_eq]
  simp [nb0, rowsOf, ns]
/-- The inode of 32 bytes. -/
def ofN (L : List Int) : Nd := ⟨L.getD 0 0, num L 2 2, num L 4 4, num L 8 2, num L 10 2, num L 12 2, num L 14 2, num L 16 2⟩
theorem u16_num (L : List Int) (hL : Byt L) (p : Nat) : U16 (num L p 2) := by
  have := num_bd L p hL 2
  unfold U16
  omega
theorem ok_ofN (L : List Int) (hL : Byt L) : OkN (ofN L) :=
  okN_of (hL 0) (u16_num L hL _) (by have := num_bd L 4 hL 4; show 0 ≤ num L 4 4 ∧ num L 4 4 ≤ 4294967295; omega) (u16_num L hL _) (u16_num L hL _) (u16_num L hL _) (u16_num L hL _) (u16_num L hL _)
theorem num_mid (A B : List Int) (x : Int) (p n : Nat) (hp : A.length = p) (h0 : 0 ≤ x) (h1 : x < 2 ^ (8 * n)) : num (A ++ (bytesOf x n ++ B)) p n = x := by
  rw [num_congr _ (bytesOf x n) p 0 n (fun t ht => ?_), num_bytesOf x n n (Nat.le_refl _), Int.emod_eq_of_lt h0 h1]
  rw [getD_app, if_neg (by omega), hp, Nat.add_sub_cancel_left, getD_app_left _ _ _ (by rw [length_bytesOf]; exact ht), Nat.zero_add]
theorem ofN_nb {N : Nd} (h : OkN N) : ofN (nb N) = N := by
  have e := nb_parts N
  have key : ∀ (A B : List Int) (x : Int) (p n : Nat), nb N = A ++ (bytesOf x n ++ B) → A.length = p → 0 ≤ x → x < 2 ^ (8 * n) → num (nb N) p n = x := fun A B x p n hh hp h0 h1 => by rw [hh]; exact num_mid A B x p n hp h0 h1
  have ln := length_bytesOf
  have u := h.hn
  have hl := h.hl
  have u0 := u 0
  have u1 := u 1
  have u2 := u 2
  have u3 := u 3
  have u4 := u 4
  have hz := h.hz
  obtain ⟨k, l, z, a, b, c, s, d⟩ := N
  simp only [ns, List.getD_cons_zero, List.getD_cons_succ] at u0 u1 u2 u3 u4
  unfold U16 at u0 u1 u2 u3 u4 hl
  simp only at hz hl
  have k0 : (nb ⟨k, l, z, a, b, c, s, d⟩).getD 0 0 = k := by rw [e]; rfl
  have k1 := key ([k] ++ [0]) (bytesOf z 4 ++ (bytesOf a 2 ++ (bytesOf b 2 ++ (bytesOf c 2 ++ (bytesOf s 2 ++ (bytesOf d 2 ++ List.replicate 14 0)))))) l 2 2 (by rw [e]; simp only [List.append_assoc]) rfl hl.1 (by omega)
  have k2 := key ([k] ++ [0] ++ bytesOf l 2) (bytesOf a 2 ++ (bytesOf b 2 ++ (bytesOf c 2 ++ (bytesOf s 2 ++ (bytesOf d 2 ++ List.replicate 14 0))))) z 4 4 (by rw [e]; simp only [List.append_assoc]) (by simp [ln]) hz.1 (by omega)
  have k3 := key ([k] ++ [0] ++ bytesOf l 2 ++ bytesOf z 4) (bytesOf b 2 ++ (bytesOf c 2 ++ (bytesOf s 2 ++ (bytesOf d 2 ++ List.replicate 14 0)))) a 8 2 (by rw [e]; simp only [List.append_assoc]) (by simp [ln]) u0.1 (by omega)
  have k4 := key ([k] ++ [0] ++ bytesOf l 2 ++ bytesOf z 4 ++ bytesOf a 2) (bytesOf c 2 ++ (bytesOf s 2 ++ (bytesOf d 2 ++ List.replicate 14 0))) b 10 2 (by rw [e]; simp only [List.append_assoc]) (by simp [ln]) u1.1 (by omega)
  have k5 := key ([k] ++ [0] ++ bytesOf l 2 ++ bytesOf z 4 ++ bytesOf a 2 ++ bytesOf b 2) (bytesOf s 2 ++ (bytesOf d 2 ++ List.replicate 14 0)) c 12 2 (by rw [e]; simp only [List.append_assoc]) (by simp [ln]) u2.1 (by omega)
  have k6 := key ([k] ++ [0] ++ bytesOf l 2 ++ bytesOf z 4 ++ bytesOf a 2 ++ bytesOf b 2 ++ bytesOf c 2) (bytesOf d 2 ++ List.replicate 14 0) s 14 2 (by rw [e]; simp only [List.append_assoc]) (by simp [ln]) u3.1 (by omega)
  have k7 := key ([k] ++ [0] ++ bytesOf l 2 ++ bytesOf z 4 ++ bytesOf a 2 ++ bytesOf b 2 ++ bytesOf c 2 ++ bytesOf s 2) (List.replicate 14 0) d 16 2 (by rw [e]; simp only [List.append_assoc]) (by simp [ln]) u4.1 (by omega)
  unfold ofN
  rw [k0, k1, k2, k3, k4, k5, k6, k7]
theorem nb_inj {M N : Nd} (hM : OkN M) (hN : OkN N) (h : nb M = nb N) : M = N := by rw [← ofN_nb hM, ← ofN_nb hN, h]
/-- What bytes are an inode's: 32, of a kind, noughts where noughts must stand. -/
def Fit (L : List Int) : Prop := L.length = 32 ∧ L.getD 0 0 ≤ 3 ∧ L.getD 1 0 = 0 ∧ ∀ i, 18 ≤ i → i < 32 → L.getD i 0 = 0
theorem nb_one (N : Nd) : (nb N).getD 1 0 = 0 := by rw [nb_parts]; rfl
theorem nb_tail (N : Nd) (i : Nat) (h : 18 ≤ i) : (nb N).getD i 0 = 0 := by
  have h2 := length_nb0 N
  have h3 := length_rowsOf (ns N) 2 5
  rw [nb_eq, getD_app, if_neg (by rw [List.length_append]; omega)]
  simp only [List.getD, List.getElem?_replicate]
  split <;> rfl
theorem nb_row (N : Nd) (i t : Nat) (hi : i < 5) (ht : t < 2) : (nb N).getD (8 + i * 2 + t) 0 = byteAt ((ns N).getD i 0) t := by
  have h2 := length_nb0 N
  have h3 := length_rowsOf (ns N) 2 5
  rw [nb_eq, List.append_assoc, getD_app, if_neg (by omega), h2, show 8 + i * 2 + t - 8 = i * 2 + t by omega, getD_app_left _ _ _ (by omega), rowsOf_get _ _ _ _ _ hi ht, Nat.zero_add, bytesOf_get _ _ _ ht]
theorem ns_ofN (L : List Int) (i : Nat) (h : i < 5) : (ns (ofN L)).getD i 0 = num L (8 + 2 * i) 2 := by
  match i, h with
  | 0, _ => rfl
  | 1, _ => rfl
  | 2, _ => rfl
  | 3, _ => rfl
  | 4, _ => rfl
theorem nb_l (N : Nd) (t : Nat) (ht : t < 2) : (nb N).getD (2 + t) 0 = byteAt N.l t := by
  have h2 := length_bytesOf N.l 2
  rw [nb_parts, ← List.append_assoc, getD_app, if_neg (by simp), getD_app_left _ _ _ (by simp [h2]; omega), bytesOf_get _ _ _ (by simp; omega)]
  congr 1; simp
theorem nb_z (N : Nd) (t : Nat) (ht : t < 4) : (nb N).getD (4 + t) 0 = byteAt N.z t := by
  have h2 := length_bytesOf N.l 2
  have h3 := length_bytesOf N.z 4
  rw [nb_parts, ← List.append_assoc, ← List.append_assoc, getD_app, if_neg (by simp [h2]), getD_app_left _ _ _ (by simp [h2, h3]; omega), bytesOf_get _ _ _ (by simp [h2]; omega)]
  congr 1; simp [h2]
/-- Bytes are those of their own inode just where noughts stand at 1 and from 18 on. -/
theorem nb_of (L : List Int) (hL : Byt L) (hl : L.length = 32) (h1 : L.getD 1 0 = 0) (hz : ∀ i, 18 ≤ i → i < 32 → L.getD i 0 = 0) : L = nb (ofN L) := by
  refine eq_getD _ _ 32 hl (length_nb _) (fun i hi => ?_)
  by_cases e0 : i = 0
  · subst e0; rw [nb_parts]; rfl
  by_cases e1 : i = 1
  · subst e1; rw [nb_one, h1]
  by_cases e2 : i < 4
  · obtain ⟨t, rfl⟩ : ∃ t, i = 2 + t := ⟨i - 2, by omega⟩
    rw [nb_l _ t (by omega)]
    exact (byteAt_num L 2 hL 2 t (by omega)).symm
  by_cases e3 : i < 8
  · obtain ⟨t, rfl⟩ : ∃ t, i = 4 + t := ⟨i - 4, by omega⟩
    rw [nb_z _ t (by omega)]
    exact (byteAt_num L 4 hL 4 t (by omega)).symm
  by_cases e4 : i < 18
  · obtain ⟨j, t, hj, ht, rfl⟩ : ∃ j t, j < 5 ∧ t < 2 ∧ i = 8 + j * 2 + t := ⟨(i - 8) / 2, (i - 8) % 2, by omega, by omega, by omega⟩
    rw [nb_row _ j t hj ht, ns_ofN L j hj, byteAt_num L _ hL 2 t ht]
    congr 1; omega
  · rw [nb_tail _ i (by omega), hz i (by omega) hi]
theorem fit_iff (L : List Int) (hL : Byt L) (hl : L.length = 32) : Fit L ↔ (L.getD 0 0 ≤ 3 ∧ L = nb (ofN L)) := by
  constructor
  · rintro ⟨_, h0, h1, h2⟩
    exact ⟨h0, nb_of L hL hl h1 h2⟩
  · rintro ⟨h0, h1⟩
    refine ⟨hl, h0, ?_, fun i hi _ => ?_⟩
    · rw [h1]; exact nb_one _
    · rw [h1]; exact nb_tail _ i hi
theorem fit_nb {N : Nd} (h : N.k ≤ 3) : Fit (nb N) := ⟨length_nb N, by rw [nb_parts]; exact h, nb_one N, fun i hi _ => nb_tail N i hi⟩
instance (L : List Int) : Decidable (Fit L) := decidable_of_iff (L.length = 32 ∧ L.getD 0 0 ≤ 3 ∧ L.getD 1 0 = 0 ∧ ∀ i, i < 32 → 18 ≤ i → L.getD i 0 = 0) ⟨fun h => ⟨h.1, h.2.1, h.2.2.1, fun i h1 h2 => h.2.2.2 i h2 h1⟩, fun h => ⟨h.1, h.2.1, h.2.2.1, fun i h1 h2 => h.2.2.2 i h2 h1⟩⟩
/-- What Get tells. -/
def getN (L : List Int) : Value := if Fit L then .tuple #[.agg (nc (ofN L)), .int .i64 0] else .tuple #[.agg (nc zn), .int .i64 11]
theorem getN_ok {L : List Int} (h : Fit L) : getN L = .tuple #[.agg (nc (ofN L)), .int .i64 0] := if_pos h
theorem getN_no {L : List Int} (h : ¬ Fit L) : getN L = .tuple #[.agg (nc zn), .int .i64 11] := if_neg h
theorem getN_nb {N : Nd} (h : OkN N) (hk : N.k ≤ 3) : getN (nb N) = .tuple #[.agg (nc N), .int .i64 0] := by rw [getN_ok (fit_nb hk), ofN_nb h]
end Go.Proofs.Ytpdggopkalbbeaa
