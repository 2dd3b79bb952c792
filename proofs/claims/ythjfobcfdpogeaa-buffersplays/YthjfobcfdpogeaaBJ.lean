/-
  A cache as a law has it: made since the law began; what each method then answers; and the laws' 'awake'.
-/
import Derived.Test.YthjfobcfdpogeaaBI
namespace Go.Proofs.Ythjfobcfdpogeaa
set_option linter.unusedVariables false
open Go.RowKit Plain

/-- A cache that was made since w0. -/
structure St (w0 w : World) (C : Nat) (n : Int) (L : List Kp) : Prop where
  cc : Cc w w0.heap.size C n L
  bl : Below w0.heap.size w0 w
theorem St.fr {w0 w w' : World} {C : Nat} {n : Int} {L L' : List Kp} (h : St w0 w C n L) (hf : Fr w0.heap.size w w') (hc : Cc w' w0.heap.size C n L') : St w0 w' C n L' := ⟨hc, h.bl.trans (hf.below h.bl.size)⟩
theorem St.below {w0 w w' : World} {C : Nat} {n : Int} {L : List Kp} (h : St w0 w C n L) (hb : Below w.heap.size w w') : St w0 w' C n L := ⟨h.cc.below hb, h.bl.trans (hb.mono h.bl.size)⟩
theorem St.len {w0 w : World} {C : Nat} {n : Int} {L : List Kp} (h : St w0 w C n L) : L.length < 1000000 := by
  obtain ⟨⟨rv, h1⟩, _⟩ := h.cc
  exact h1.len
/-- A row of bytes in a block of its own. -/
structure B8 (w : World) (S : Nat) (bs : List Int) : Prop where
  at_ : w.heap[S]? = some (.cells (u8s bs) 5 (0, 0))
  byt : Byt bs
theorem B8.bytes {w : World} {S : Nat} {bs : List Int} (h : B8 w S bs) : Bytes w (some ⟨S, 0, none⟩) bs.length bs := bytes_of_row h.byt h.at_
theorem B8.ok8 {w : World} {S : Nat} {bs : List Int} (h : B8 w S bs) : Ok8 w (some ⟨S, 0, none⟩) := fun ad e => by
  simp only [Option.some.injEq] at e
  subst e
  exact not_CK h.at_ (by decide) (by decide)
theorem B8.fr {B : Nat} {w w' : World} {S : Nat} {bs : List Int} (h : B8 w S bs) (hf : Fr B w w') : B8 w' S bs := ⟨hf.row h.at_ (by decide) (by decide), h.byt⟩
theorem B8.below {w w' : World} {S : Nat} {bs : List Int} (h : B8 w S bs) (hb : Below w.heap.size w w') : B8 w' S bs := ⟨(hb.block S (Array.getElem?_eq_some_iff.1 h.at_).1).trans h.at_, h.byt⟩
theorem B8.b160 {w : World} {S : Nat} {bs : List Int} (h : B8 w S bs) (hl : bs.length = 160) : Bytes w (some ⟨S, 0, none⟩) 160 bs := by
  have := h.bytes
  rwa [hl] at this
theorem new_st (w0 w : World) (hb : Below w0.heap.size w0 w) (n : Int) : Calls Try.prog 9 #[.int .i64 n] w fun e w' => ∃ C, e = .returned (.pointer (some ⟨C, 0, none⟩)) ∧ St w0 w' C n [] ∧ Below w.heap.size w w' :=
  (new_any w w0.heap.size hb.size n).mono fun e w' h => ⟨w.heap.size, h.1, ⟨h.2.1, hb.trans (h.2.2.mono hb.size)⟩, h.2.2⟩
theorem put_new' (w0 w : World) (C : Nat) (n : Int) (L L' : List Kp) (h : St w0 w C n L) (b : Int) (hU : U64 b) (hn : No L b) (hr : Rm n L L' true) (S c : Nat) (bs : List Int) (hb : B8 w S bs) (hl : bs.length = 160) (hlen : L.length < 900000) :
    Calls Try.prog 11 #[.pointer (some ⟨C, 0, none⟩), .int .u64 b, .slice (some ⟨S, 0, none⟩) 160 c] w fun e w' => e = .returned (.int .i64 0) ∧ (∃ y, Lx w w' y b bs 0 ∧ St w0 w' C n (y :: L')) ∧ Fr w0.heap.size w w' := by
  refine (put_new w _ C n L L' h.cc b hU hn hr (some ⟨S, 0, none⟩) c bs (hb.b160 hl) hb.ok8 (Nat.lt_of_le_of_lt hr.sub.length_le hlen) h.bl.size).mono ?_
  rintro e w' ⟨rfl, ⟨y, h1, h2⟩, hf⟩
  exact ⟨rfl, ⟨y, h1, h.fr hf h2⟩, hf⟩
theorem put_old' (w0 w : World) (C : Nat) (n : Int) (L : List Kp) (h : St w0 w C n L) (b : Int) (i : Nat) (hi : i < L.length) (hf : Fs L b i) (S c : Nat) (bs : List Int) (hb : B8 w S bs) (hl : bs.length = 160) :
    Calls Try.prog 11 #[.pointer (some ⟨C, 0, none⟩), .int .u64 b, .slice (some ⟨S, 0, none⟩) 160 c] w fun e w' => e = .returned (.int .i64 0) ∧ (∃ y, Lx w w' y b bs L[i].h ∧ St w0 w' C n (y :: L.eraseIdx i)) ∧ Fr w0.heap.size w w' := by
  refine (put_old w _ C n L h.cc b i hi hf (some ⟨S, 0, none⟩) c bs (hb.b160 hl)).mono ?_
  rintro e w' ⟨rfl, ⟨y, h1, h2⟩, hf⟩
  exact ⟨rfl, ⟨y, h1, h.fr hf h2⟩, hf⟩
theorem put_full' (w0 w : World) (C : Nat) (n : Int) (L L' : List Kp) (h : St w0 w C n L) (b : Int) (hn : No L b) (hr : Rm n L L' false) (a : Option Addr) (c : Nat) :
    Calls Try.prog 11 #[.pointer (some ⟨C, 0, none⟩), .int .u64 b, .slice a 160 c] w fun e w' => e = .returned (.int .i64 17) ∧ St w0 w' C n L' ∧ Fr w0.heap.size w w' := by
  refine (put_full w _ C n L L' h.cc b hn hr a c).mono ?_
  rintro e w' ⟨rfl, h1, hf⟩
  exact ⟨rfl, h.fr hf h1, hf⟩
theorem get_no' (w0 w : World) (C : Nat) (n : Int) (L : List Kp) (h : St w0 w C n L) (b : Int) (hn : No L b) :
    Calls Try.prog 13 #[.pointer (some ⟨C, 0, none⟩), .int .u64 b] w fun e w' => e = .returned (.tuple #[.slice none 0 0, .bool false]) ∧ St w0 w' C n L ∧ Fr w0.heap.size w w' := by
  refine (get_no w _ C n L h.cc b hn).mono ?_
  rintro e w' ⟨rfl, hb⟩
  exact ⟨rfl, h.below hb, Fr.of_below hb⟩
theorem get_ok' (w0 w : World) (C : Nat) (n : Int) (L : List Kp) (h : St w0 w C n L) (b : Int) (i : Nat) (hi : i < L.length) (hf : Fs L b i) :
    Calls Try.prog 13 #[.pointer (some ⟨C, 0, none⟩), .int .u64 b] w fun e w' => (∃ a' c', e = .returned (.tuple #[.slice a' 160 c', .bool true]) ∧ Nw w w' a' c' L[i].bs) ∧ St w0 w' C n (fro L i hi) ∧ Fr w0.heap.size w w' := by
  refine (get_ok w _ C n L h.cc b i hi hf).mono ?_
  rintro e w' ⟨h0, h1, hf⟩
  exact ⟨h0, h.fr hf h1, hf⟩
theorem pin_no' (w0 w : World) (C : Nat) (n : Int) (L : List Kp) (h : St w0 w C n L) (b : Int) (hn : No L b) :
    Calls Try.prog 15 #[.pointer (some ⟨C, 0, none⟩), .int .u64 b] w fun e w' => e = .returned (.bool false) ∧ St w0 w' C n L ∧ Fr w0.heap.size w w' :=
  (pin_no w _ C n L h.cc b hn).mono fun e w' k => ⟨k.1, h.below k.2, Fr.of_below k.2⟩
theorem pin_ok' (w0 w : World) (C : Nat) (n : Int) (L : List Kp) (h : St w0 w C n L) (b : Int) (i : Nat) (hi : i < L.length) (hf : Fs L b i) (hh : L[i].h < 18446744073709551615) :
    Calls Try.prog 15 #[.pointer (some ⟨C, 0, none⟩), .int .u64 b] w fun e w' => e = .returned (.bool true) ∧ St w0 w' C n (L.set i { L[i] with h := L[i].h + 1 }) ∧ Fr w0.heap.size w w' :=
  (pin_ok w _ C n L h.cc b i hi hf hh).mono fun e w' k => ⟨k.1, h.fr k.2.2 k.2.1, k.2.2⟩
theorem unpin_no' (w0 w : World) (C : Nat) (n : Int) (L : List Kp) (h : St w0 w C n L) (b : Int) (hn : No L b) :
    Calls Try.prog 17 #[.pointer (some ⟨C, 0, none⟩), .int .u64 b] w fun e w' => e = .returned (.bool false) ∧ St w0 w' C n L ∧ Fr w0.heap.size w w' :=
  (unpin_no w _ C n L h.cc b hn).mono fun e w' k => ⟨k.1, h.below k.2, Fr.of_below k.2⟩
theorem unpin_zero' (w0 w : World) (C : Nat) (n : Int) (L : List Kp) (h : St w0 w C n L) (b : Int) (i : Nat) (hi : i < L.length) (hf : Fs L b i) (hh : L[i].h = 0) :
    Calls Try.prog 17 #[.pointer (some ⟨C, 0, none⟩), .int .u64 b] w fun e w' => e = .returned (.bool false) ∧ St w0 w' C n L ∧ Fr w0.heap.size w w' :=
  (unpin_zero w _ C n L h.cc b i hi hf hh).mono fun e w' k => ⟨k.1, h.below k.2, Fr.of_below k.2⟩
theorem unpin_ok' (w0 w : World) (C : Nat) (n : Int) (L : List Kp) (h : St w0 w C n L) (b : Int) (i : Nat) (hi : i < L.length) (hf : Fs L b i) (hh : L[i].h ≠ 0) :
    Calls Try.prog 17 #[.pointer (some ⟨C, 0, none⟩), .int .u64 b] w fun e w' => e = .returned (.bool true) ∧ St w0 w' C n (L.set i { L[i] with h := L[i].h - 1 }) ∧ Fr w0.heap.size w w' :=
  (unpin_ok w _ C n L h.cc b i hi hf hh).mono fun e w' k => ⟨k.1, h.fr k.2.2 k.2.1, k.2.2⟩
theorem drop_no' (w0 w : World) (C : Nat) (n : Int) (L : List Kp) (h : St w0 w C n L) (b : Int) (hn : No L b) :
    Calls Try.prog 18 #[.pointer (some ⟨C, 0, none⟩), .int .u64 b] w fun e w' => e = .returned (.bool false) ∧ St w0 w' C n L ∧ Fr w0.heap.size w w' :=
  (drop_no w _ C n L h.cc b hn).mono fun e w' k => ⟨k.1, h.below k.2, Fr.of_below k.2⟩
theorem drop_held' (w0 w : World) (C : Nat) (n : Int) (L : List Kp) (h : St w0 w C n L) (b : Int) (i : Nat) (hi : i < L.length) (hf : Fs L b i) (hh : L[i].h ≠ 0) :
    Calls Try.prog 18 #[.pointer (some ⟨C, 0, none⟩), .int .u64 b] w fun e w' => e = .returned (.bool false) ∧ St w0 w' C n L ∧ Fr w0.heap.size w w' :=
  (drop_held w _ C n L h.cc b i hi hf hh).mono fun e w' k => ⟨k.1, h.below k.2, Fr.of_below k.2⟩
theorem drop_ok' (w0 w : World) (C : Nat) (n : Int) (L : List Kp) (h : St w0 w C n L) (b : Int) (i : Nat) (hi : i < L.length) (hf : Fs L b i) (hh : L[i].h = 0) :
    Calls Try.prog 18 #[.pointer (some ⟨C, 0, none⟩), .int .u64 b] w fun e w' => e = .returned (.bool true) ∧ St w0 w' C n (L.eraseIdx i) ∧ Fr w0.heap.size w w' :=
  (drop_ok w _ C n L h.cc b i hi hf hh).mono fun e w' k => ⟨k.1, h.fr k.2.2 k.2.1, k.2.2⟩
theorem blocks_st (w0 w : World) (C : Nat) (n : Int) (L : List Kp) (h : St w0 w C n L) :
    Calls Try.prog 21 #[.pointer (some ⟨C, 0, none⟩)] w fun e w' => (∃ S, e = .returned (.slice (some ⟨S, 0, none⟩) L.length L.length) ∧ w'.heap[S]? = some (.cells (u64s (L.map (·.b))) 29 (0, 0))) ∧ St w0 w' C n L ∧ Fr w0.heap.size w w' := by
  refine (blocks_any w _ C n L h.cc).mono ?_
  rintro e w' ⟨⟨S, h1, _, h3⟩, hb⟩
  exact ⟨⟨S, h1, h3⟩, h.below hb, Fr.of_below hb⟩
theorem no_nil (b : Int) : No [] b := fun x hx => by simp at hx
theorem fs_zero (y : Kp) (L : List Kp) (b : Int) (h : y.b = b) : Fs (y :: L) b 0 := ⟨by simp, h, fun j _ hj => by omega⟩
theorem no_cons {y : Kp} {L : List Kp} {b : Int} (h : y.b ≠ b) (hn : No L b) : No (y :: L) b := fun x hx => by
  rcases List.mem_cons.1 hx with rfl | hx
  · exact h
  · exact hn x hx
theorem u64_of {x : Int} (h : 0 ≤ x ∧ x ≤ 18446744073709551615) : U64 x := h
theorem rm_one (y : Kp) (h : y.h = 0) : Rm 1 [y] [] true := .step [y] [] true 0 (by simp) ⟨by simp, h, fun j hj hlt => by simp at hj; omega⟩ (.fit [] (by simp))
theorem rm_stuck (y : Kp) (h : y.h ≠ 0) : Rm 1 [y] [y] false := .stuck [y] (by simp) (fun x hx => by simp at hx; subst hx; exact h)
theorem made_u8 (n : Nat) : madeCells #[.int .u8 0] n = u8s (List.replicate n 0) := by rw [made_one]; simp [u8s]
theorem zeros160 (w : World) (S : Nat) (hS : w.heap.size = S) : B8 (w.alloc (.cells (madeCells #[.int .u8 0] 160) 5)) S (List.replicate 160 0) := ⟨by
  rw [made_u8]
  exact al_at hS, byt_zeros _⟩
def z160 : List Int := List.replicate 160 0
theorem length_z160 : z160.length = 160 := List.length_replicate
set_option maxRecDepth 20000 in
set_option maxHeartbeats 4000000 in
theorem awake_any (w : World) : Calls Try.prog 8 #[] w fun e w' => e = .returned (.bool true) ∧ Below w.heap.size w w' := by
  have N0 : Box _ := ⟨new_st w w (Below.refl _ _) 1⟩
  have HX : Box (1 * 160 ≤ 281474976710656 ∧ 160 ≤ 9223372036854775807) := ⟨by omega, by omega⟩
  go_enter Try.func8, Try.ntmps8
  go_upto_region 2 with (go_at_call 9; refine N0.out.mono ?_; rintro e w1 ⟨C, rfl, hs1, hb1⟩; have S1 : Box _ := ⟨hs1⟩; clear hs1 hb1)
  obtain ⟨S, hS⟩ : ∃ S, w1.heap.size = S := ⟨_, rfl⟩
  have H2 : Box (St w (w1.alloc (.cells (madeCells #[.int .u8 0] 160) 5)) C 1 [] ∧ B8 (w1.alloc (.cells (madeCells #[.int .u8 0] 160) 5)) S z160) := ⟨S1.out.below ((Below.refl _ _).alloc (Nat.le_refl _) _), zeros160 w1 S hS⟩
  go_upto_region 3 with (refine wpList_run rfl _ _ (exec_make 30 5 _ _ rfl (.int .u8 0) 1 1 Try.underlying30 info5 160 rfl rfl HX.out.1 HX.out.2) ?_)
  (try simp only [hS])
  generalize w1.alloc (.cells (madeCells #[.int .u8 0] 160) 5) = w2 at H2 ⊢
  clear hS S1 N0 HX
  have P1 : Box _ := ⟨put_new' w w2 C 1 [] [] H2.out.1 1 (u64_of (by omega)) (no_nil _) (.fit [] (by simp)) S 160 z160 H2.out.2 length_z160 (by simp)⟩
  go_upto_region 9 with (first
    | (go_at_call 11; refine P3.out.mono ?_; rintro e w8 ⟨rfl, hs8, f8⟩; have H8 : Box (St w w8 C 1 [{ y2 with h := y2.h + 1 }]) := ⟨hs8⟩; clear hs8 f8 P3)
    | (go_at_call 11; refine P2.out.mono ?_; rintro e w4 ⟨rfl, ⟨y2, l2, hs4⟩, f4⟩; have H4 : Box (St w w4 C 1 [y2] ∧ y2.b = 2 ∧ y2.h = 0 ∧ B8 w4 S z160) := ⟨hs4, l2.b, l2.h, H3.out.2.2.2.fr f4⟩; have G1 : Box _ := ⟨get_no' w w4 C 1 [y2] hs4 1 (no_cons (by rw [l2.b]; decide) (no_nil _))⟩; clear hs4 f4 l2 P2 H3)
    | (go_at_call 11; refine P1.out.mono ?_; rintro e w3 ⟨rfl, ⟨y1, l1, hs3⟩, f3⟩; have H3 : Box (St w w3 C 1 [y1] ∧ y1.b = 1 ∧ y1.h = 0 ∧ B8 w3 S z160) := ⟨hs3, l1.b, l1.h, H2.out.2.fr f3⟩; have P2 : Box _ := ⟨put_new' w w3 C 1 [y1] [] hs3 2 (u64_of (by omega)) (no_cons (by rw [l1.b]; decide) (no_nil _)) (rm_one y1 l1.h) S 160 z160 (H2.out.2.fr f3) length_z160 (by simp)⟩; clear hs3 f3 l1 P1 H2)
    | (go_at_call 13; refine G2.out.mono ?_; rintro e w6 ⟨⟨a6, c6, rfl, _⟩, hs6, f6⟩; have H6 : Box (St w w6 C 1 [y2] ∧ y2.b = 2 ∧ y2.h = 0 ∧ B8 w6 S z160) := ⟨hs6, H5.out.2.1, H5.out.2.2.1, H5.out.2.2.2.fr f6⟩; have Q1 : Box _ := ⟨pin_ok' w w6 C 1 [y2] hs6 2 0 (by simp) (fs_zero _ _ _ H5.out.2.1) (by show y2.h < _; rw [H5.out.2.2.1]; decide)⟩; clear hs6 f6 G2 H5)
    | (go_at_call 13; refine G1.out.mono ?_; rintro e w5 ⟨rfl, hs5, f5⟩; have H5 : Box (St w w5 C 1 [y2] ∧ y2.b = 2 ∧ y2.h = 0 ∧ B8 w5 S z160) := ⟨hs5, H4.out.2.1, H4.out.2.2.1, H4.out.2.2.2.fr f5⟩; have G2 : Box _ := ⟨get_ok' w w5 C 1 [y2] hs5 2 0 (by simp) (fs_zero _ _ _ H4.out.2.1)⟩; clear hs5 f5 G1 H4)
    | (go_at_call 15; refine Q1.out.mono ?_; rintro e w7 ⟨rfl, hs7, f7⟩; have hs7' : St w w7 C 1 [{ y2 with h := y2.h + 1 }] := hs7; have P3 : Box _ := ⟨put_full' w w7 C 1 [{ y2 with h := y2.h + 1 }] [{ y2 with h := y2.h + 1 }] hs7' 3 (no_cons (by show y2.b ≠ 3; rw [H6.out.2.1]; decide) (no_nil _)) (rm_stuck _ (by show y2.h + 1 ≠ 0; rw [H6.out.2.2.1]; decide)) (some ⟨S, 0, none⟩) 160⟩; clear hs7 hs7' f7 Q1))
  have hy := H6.out
  have U1 : Box _ := ⟨unpin_ok' w w8 C 1 [{ y2 with h := y2.h + 1 }] H8.out 2 0 (by simp) (fs_zero _ _ _ hy.2.1) (by show y2.h + 1 ≠ 0; rw [hy.2.2.1]; decide)⟩
  have HY : Box (y2.b = 2 ∧ y2.h = 0) := ⟨hy.2.1, hy.2.2.1⟩
  clear hy H6 H8
  go_wp2_with (first
    | (go_at_call 17; refine U2.out.mono ?_; rintro e w10 ⟨rfl, hs10, f10⟩; have K1 : Box _ := ⟨blocks_st w w10 C 1 _ hs10⟩; clear hs10 f10 U2)
    | (go_at_call 17; refine U1.out.mono ?_; rintro e w9 ⟨rfl, hs9, f9⟩; have U2 : Box _ := ⟨unpin_zero' w w9 C 1 _ hs9 2 0 (by simp) (fs_zero _ _ _ HY.out.1) (by show y2.h + 1 - 1 = 0; rw [HY.out.2]; decide)⟩; clear hs9 f9 U1)
    | (go_at_call 21; refine K1.out.mono ?_; rintro e w11 ⟨⟨S11, rfl, _⟩, hs11, _⟩; have H11 : Box (Below w.heap.size w w11) := ⟨hs11.bl⟩; clear hs11 K1))
  go_ret
  exact ⟨rfl, H11.out⟩
end Go.Proofs.Ythjfobcfdpogeaa
