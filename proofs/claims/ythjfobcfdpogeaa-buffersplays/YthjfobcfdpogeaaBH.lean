/-
  What the Go method Put of package buffers answers and leaves.
-/
import Derived.Test.YthjfobcfdpogeaaBG
namespace Go.Proofs.Ythjfobcfdpogeaa
set_option linter.unusedVariables false
open Go.RowKit Plain

set_option maxHeartbeats 1000000 in
theorem put_none (w : World) (b : Int) (v : Value) : Calls Try.prog 11 #[.pointer none, .int .u64 b, v] w fun e w' => e = .returned (.int .i64 1) ∧ w = w' := by
  go_enter Try.func11, Try.ntmps11
  go_wp2
  go_ret
  exact ⟨rfl, rfl⟩
set_option maxHeartbeats 1000000 in
theorem put_arg (w : World) (C : Nat) (b : Int) (a : Option Addr) (l c : Nat) (hl : ((l : Int) != 160) = true) : Calls Try.prog 11 #[.pointer (some ⟨C, 0, none⟩), .int .u64 b, .slice a l c] w fun e w' => e = .returned (.int .i64 1) ∧ w = w' := by
  go_enter Try.func11, Try.ntmps11
  go_wp2
  go_ret
  exact ⟨rfl, rfl⟩
set_option maxRecDepth 20000 in
set_option maxHeartbeats 2000000 in
theorem put_full (w : World) (B C : Nat) (n : Int) (L L' : List Kp) (h : Cc w B C n L) (b : Int) (hn : No L b) (hr : Rm n L L' false) (a : Option Addr) (c : Nat) :
    Calls Try.prog 11 #[.pointer (some ⟨C, 0, none⟩), .int .u64 b, .slice a 160 c] w fun e w' => e = .returned (.int .i64 17) ∧ Cc w' B C n L' ∧ Fr B w w' := by
  obtain ⟨⟨rv, h1⟩, h2⟩ := h
  have HC : Box (Cc w B C n L) := ⟨⟨rv, h1⟩, h2⟩
  have HF : Box _ := ⟨find_no w B C n rv L h1 b hn⟩
  have HM : Box (∀ x, Below w.heap.size w x → Calls Try.prog 23 #[.pointer (some ⟨C, 0, none⟩)] x fun e w' => e = .returned (.bool false) ∧ (∃ rv', Ca w' B C n rv' L') ∧ Fr B x w') := ⟨fun x hx => room_any x B C n rv L L' false (h1.below hx) hr⟩
  have HS : Box (L'.Sublist L) := ⟨hr.sub⟩
  clear h1 h2 hn hr
  go_enter Try.func11, Try.ntmps11
  go_wp2_with (first
    | (go_at_call 22; refine HF.out.mono ?_; rintro e w3 ⟨rfl, hb3⟩; have B3 : Box _ := ⟨hb3⟩; clear hb3 HF)
    | (go_at_call 23; refine (HM.out _ B3.out).mono ?_; rintro e w4 ⟨rfl, h4, f4⟩; have H4 : Box _ := ⟨h4⟩; have F4 : Box _ := ⟨f4⟩; clear h4 f4 HM))
  go_ret
  have hf := (Fr.of_below (B := B) B3.out).trans F4.out
  exact ⟨rfl, HC.out.fr hf H4.out (fun x hx => HS.out.subset hx), hf⟩
/-- Bytes of a slice that lie in no block of a cache, or of a row. -/
def Ok8 (w : World) (a : Option Addr) : Prop := ∀ ad, a = some ad → ¬ CK w ad.block
theorem bytes_fr {B : Nat} {w w' : World} {a : Option Addr} {n : Nat} {bs : List Int} (h : Bytes w a n bs) (hk : Ok8 w a) (hf : Fr B w w') : Bytes w' a n bs := by
  refine ⟨h.1, h.2.1, fun h0 => ?_⟩
  obtain ⟨b, off, rfl, hlt, hc⟩ := h.2.2 h0
  exact ⟨b, off, rfl, Nat.lt_of_lt_of_le hlt hf.size, fun i hi => hf.cell (hc i hi) (.inr (hk ⟨b, off, none⟩ rfl))⟩
theorem Ok8.fr {B : Nat} {w w' : World} {a : Option Addr} (h : Ok8 w a) (hf : Fr B w w') (hl : ∀ ad, a = some ad → ad.block < w.heap.size) : Ok8 w' a := fun ad e => by
  rw [CK.same (hf.block _ (hl ad e) (.inr (h ad e)))]
  exact h ad e
theorem fro_set (L : List Kp) (i : Nat) (hi : i < L.length) (x : Kp) (hi2 : i < (L.set i x).length) : fro (L.set i x) i hi2 = x :: L.eraseIdx i := by
  simp [fro, List.eraseIdx_set_eq]
/-- A block laid into the row: its bytes are in new memory. -/
structure Lx (w w' : World) (x : Kp) (b : Int) (bs : List Int) (hd : Int) : Prop where
  b : x.b = b
  bs : x.bs = bs
  h : x.h = hd
  kb : Kb w' x
  nw : ∀ k, (Value.slice x.a x.l x.c).ownBlock = some k → w.heap.size ≤ k
/-- What the end of Put wants of a row M in whose place i a block's bytes are set. -/
theorem put_end (w w9 : World) (B C : Nat) (n : Int) (rv : Value) (M : List Kp) (hA : Ca w9 B C n rv M) (i : Nat) (hi : i < M.length) (hF : Fr B w w9) (hK : ∀ x ∈ M.eraseIdx i, Kb w9 x) (bs : List Int) (a : Option Addr) (c : Nat) (hb : Bytes w9 a 160 bs) :
    ∃ g cap, rv = .slice (some ⟨g, 0, none⟩) M.length cap ∧ (∀ x, Below w9.heap.size w9 x → x.cell? ⟨C, 1, none⟩ = some (.slice (some ⟨g, 0, none⟩) M.length cap)) ∧
      (∀ x, Below w9.heap.size w9 x → Calls Try.prog 24 #[.slice a 160 c] x fun e w' => ∃ a' c', e = .returned (.slice a' 160 c') ∧ w'.ownsRow x.heap.size 5 1 (.slice a' 160 c') 160 (bs.map (Value.int .u8)) ∧ Below x.heap.size x w') ∧
      ∀ x a' c', Below w9.heap.size w9 x → x.ownsRow w9.heap.size 5 1 (.slice a' 160 c') 160 (bs.map (Value.int .u8)) → (x.cell? ⟨g, i * 3 + 1, none⟩).isSome = true ∧ x.frozen? ⟨g, i * 3 + 1, none⟩ = false ∧ (x.setCell ⟨g, i * 3 + 1, none⟩ (.slice a' 160 c')).cell? ⟨C, 1, none⟩ = some (.slice (some ⟨g, 0, none⟩) M.length cap) ∧
        (Calls Try.prog 25 #[.pointer (some ⟨C, 0, none⟩), .int .i64 (i : Int)] (x.setCell ⟨g, i * 3 + 1, none⟩ (.slice a' 160 c')) fun e w' => e = .returned (.tuple #[]) ∧ (∃ y, Lx w w' y M[i].b bs M[i].h ∧ Cc w' B C n (y :: M.eraseIdx i)) ∧ Fr B w w') := by
  obtain ⟨g, cap, cur, rfl, hg, hc, hm, hs, htk⟩ := hA.row.blk (by omega)
  refine ⟨g, cap, rfl, fun x hx => (hA.below hx).cells.2.1, fun x hx => clone_any a 160 c bs x (hb.below hx) (by omega) (by omega), fun x a' c' hx ho => ?_⟩
  have hu := hA.u M[i] (List.getElem_mem hi)
  obtain ⟨k1, k2, k3, k4⟩ := (hA.below hx).field i 1 hi (by omega) (.slice a' 160 c') { M[i] with a := a', l := 160, c := c', bs := bs } rfl hu
  refine ⟨k3, k4, k1.cells.2.1, ?_⟩
  refine (front_any _ B C n _ _ k1 i (by rw [List.length_set]; exact hi)).mono ?_
  rintro e w' ⟨rfl, h1, h2⟩
  rw [fro_set M i hi] at h1
  have hF9 := ((Fr.of_below (B := B) hx).trans k2).trans h2
  have ho2 := own_fr (own_fr ho k2) h2
  have hkb : Kb w' { M[i] with a := a', l := 160, c := c', bs := bs } := ⟨rfl, hb.2.1, own_low2 ho2 (Nat.zero_le _)⟩
  refine ⟨rfl, ⟨{ M[i] with a := a', l := 160, c := c', bs := bs }, ⟨rfl, rfl, rfl, hkb, fun k hk => Nat.le_trans hF.size (own_base ho2 hk)⟩, ⟨_, h1⟩, fun z hz => ?_⟩, hF.trans hF9⟩
  rcases List.mem_cons.1 hz with rfl | hz
  · exact hkb
  · exact (hK z hz).fr hF9
set_option maxRecDepth 20000 in
set_option maxHeartbeats 2000000 in
theorem put_old (w : World) (B C : Nat) (n : Int) (L : List Kp) (h : Cc w B C n L) (b : Int) (i : Nat) (hi : i < L.length) (hf : Fs L b i) (a : Option Addr) (c : Nat) (bs : List Int) (hb : Bytes w a 160 bs) :
    Calls Try.prog 11 #[.pointer (some ⟨C, 0, none⟩), .int .u64 b, .slice a 160 c] w fun e w' => e = .returned (.int .i64 0) ∧ (∃ y, Lx w w' y b bs L[i].h ∧ Cc w' B C n (y :: L.eraseIdx i)) ∧ Fr B w w' := by
  obtain ⟨⟨rv, h1⟩, h2⟩ := h
  have HF : Box _ := ⟨find_ok w B C n rv L h1 b i hf⟩
  have HP : Box (∀ x, Below w.heap.size w x → _) := ⟨fun x hx => put_end w x B C n rv L (h1.below hx) i hi (Fr.of_below hx) (fun z hz => (h2 z (List.mem_of_mem_eraseIdx hz)).fr (Fr.of_below (B := B) hx)) bs a c (hb.below hx)⟩
  have hLb : L[i].b = b := by obtain ⟨_, h3, _⟩ := hf; exact h3
  have HB : Box (L[i].b = b) := ⟨hLb⟩
  have hne : ((i : Int) == -1) = false := by simp
  obtain ⟨y, hy⟩ : ∃ y, L[i] = y := ⟨_, rfl⟩
  obtain ⟨N, hN⟩ : ∃ N, L.length = N := ⟨_, rfl⟩
  rw [hy, hN] at HP
  rw [hy] at HB ⊢
  have hi' : i < N := by omega
  clear h1 h2 hf hLb hb hy hN
  go_enter Try.func11, Try.ntmps11
  go_upto_region 9 with (go_at_call 22; refine HF.out.mono ?_; rintro e w9 ⟨rfl, hb3⟩; obtain ⟨g, cap, _, h9⟩ := HP.out w9 hb3; have H9 : Box _ := ⟨h9⟩; clear hb3 HF HP h9)
  refine begin_keep (S := fun x => x.cell? ⟨C, 1, none⟩ = some (.slice (some ⟨g, 0, none⟩) N cap)) (by kernel_rfl) (fun wd hwd => ?_)
  have hbd : Below w9.heap.size w9 wd := by rw [hwd]; exact (Below.refl _ _).drew
  clear hwd
  have hS := H9.out.1 wd hbd
  refine take_s (i := 0) (v := ?_) rfl (by kernel_rfl) (by kernel_rfl) (by kernel_rfl) (fun _ _ _ h => h) (by rfl) ?_ hS ?_
  rotate_left
  · intro w' hLat; clear hLat; go_simp <;> with_reducible rfl
  try simp only [Act.put, List.setIfInBounds_toArray, List.set_cons_zero, List.set_cons_succ, List.getElem_toArray, List.getElem_cons_zero]
  refine take_s (i := 1) (v := ?_) rfl (by kernel_rfl) (by kernel_rfl) (by kernel_rfl) (fun _ _ _ h => h) (by rfl) ?_ hS ?_
  rotate_left
  · intro w' hLat; clear hLat; go_simp <;> with_reducible rfl
  try simp only [Act.put, List.setIfInBounds_toArray, List.set_cons_zero, List.set_cons_succ, List.getElem_toArray, List.getElem_cons_zero, List.getElem_cons_succ]
  refine take_s (i := 2) (v := ?_) rfl (by kernel_rfl) (by kernel_rfl) (by kernel_rfl) (fun _ _ _ h => h) (by rfl) ?_ hS ?_
  rotate_left
  · intro w' hLat; clear hLat; go_simp <;> with_reducible rfl
  try simp only [Act.put, List.setIfInBounds_toArray, List.set_cons_zero, List.set_cons_succ, List.getElem_toArray, List.getElem_cons_zero, List.getElem_cons_succ]
  refine take_s (i := 3) (v := .slice (some ⟨g, 0, none⟩) N cap) rfl (by kernel_rfl) (by kernel_rfl) (by kernel_rfl) (fun _ _ _ h => h) (by rfl) (fun w' hLat => exec_load1 55 _ _ rfl Try.underlying55 rfl _ rfl _ hLat) hS ?_
  try simp only [Act.put, List.setIfInBounds_toArray, List.set_cons_zero, List.set_cons_succ, List.getElem_toArray, List.getElem_cons_zero, List.getElem_cons_succ]
  refine take_s (i := 4) (v := ?_) rfl (by kernel_rfl) (by kernel_rfl) (by kernel_rfl) (fun _ _ _ h => h) (by rfl) ?_ hS ?_
  rotate_left
  · intro w' hLat; clear hLat; go_simp <;> with_reducible rfl
  try simp only [Act.put, List.setIfInBounds_toArray, List.set_cons_zero, List.set_cons_succ, List.getElem_toArray, List.getElem_cons_zero, List.getElem_cons_succ]
  refine take_s (i := 5) (v := ?_) rfl (by kernel_rfl) (by kernel_rfl) (by kernel_rfl) (fun _ _ _ h => h) (by rfl) ?_ hS ?_
  rotate_left
  · intro w' hLat; clear hLat; go_simp <;> with_reducible rfl
  try simp only [Act.put, List.setIfInBounds_toArray, List.set_cons_zero, List.set_cons_succ, List.getElem_toArray, List.getElem_cons_zero, List.getElem_cons_succ]
  refine one_keep (i := 6) (by kernel_rfl) ?_
  refine keep_step rfl (by rfl) ?_
  go_simp
  refine Calls.mono (H9.out.2.1 wd hbd) ?_
  rintro e x1 ⟨a', c', rfl, ho, hb1⟩
  have hbx := below_to hbd hb1
  have hS := H9.out.1 x1 hbx
  refine ⟨hS, ?_⟩
  try simp only [Act.put, List.setIfInBounds_toArray, List.set_cons_zero, List.set_cons_succ, List.getElem_toArray, List.getElem_cons_zero, List.getElem_cons_succ]
  refine take_s (i := 7) (v := .pointer (some ⟨g, i * 3, none⟩)) rfl (by kernel_rfl) (by kernel_rfl) (by kernel_rfl) (fun _ _ _ h => h) (by rfl) (fun w' hLat => exec_idxK _ _ rfl g N cap i rfl rfl (by omega)) hS ?_
  try simp only [Act.put, List.setIfInBounds_toArray, List.set_cons_zero, List.set_cons_succ, List.getElem_toArray, List.getElem_cons_zero, List.getElem_cons_succ]
  refine take_s (i := 8) (v := ?_) rfl (by kernel_rfl) (by kernel_rfl) (by kernel_rfl) (fun _ _ _ h => h) (by rfl) ?_ hS ?_
  rotate_left
  · intro w' hLat; clear hLat; go_simp <;> with_reducible rfl
  try simp only [Act.put, List.setIfInBounds_toArray, List.set_cons_zero, List.set_cons_succ, List.getElem_toArray, List.getElem_cons_zero, List.getElem_cons_succ]
  refine one_keep (i := 9) (by kernel_rfl) ?_
  refine keep_step rfl (by rfl) ?_
  have H10 : Box _ := ⟨H9.out.2.2 x1 a' c' hbx (own_low2 ho hbd.size)⟩
  refine wp_store_one 30 (.tmp 47) (.tmp 45) rfl (by kernel_rfl) (.slice a' 160 c') rfl rfl rfl rfl H10.out.1 H10.out.2.1 ?_
  have hS := H10.out.2.2.1
  generalize x1.setCell ⟨g, i * 3 + 1, none⟩ (.slice a' 160 c') = w10 at H10 hS ⊢
  refine ⟨hS, ?_⟩
  try simp only [Act.put, List.getElem_toArray, List.getElem_cons_zero, List.getElem_cons_succ]
  refine wpAnyH_done (by kernel_rfl) ?_ _
  clear H9 hbd hbx ho hb1
  go_wp2_with (go_at_call 25; refine H10.out.2.2.2.mono ?_; rintro e w11 ⟨rfl, h11, f11⟩; have H11 : Box _ := ⟨h11⟩; have F11 : Box _ := ⟨f11⟩; clear h11 f11)
  go_ret
  rw [HB.out] at H11
  exact ⟨rfl, H11.out, F11.out⟩
theorem built_K (b : Int) : Try.prog.built 60 [(0, .int .u64 b)] = some #[.int .u64 b, .slice none 0 0, .int .u64 0] := by kernel_rfl
theorem erase_last (L : List Kp) (x : Kp) : (L ++ [x]).eraseIdx L.length = L := by
  rw [List.eraseIdx_append_of_length_le (Nat.le_refl _)]
  simp
set_option maxRecDepth 20000 in
set_option maxHeartbeats 2000000 in
theorem put_new (w : World) (B C : Nat) (n : Int) (L L' : List Kp) (h : Cc w B C n L) (b : Int) (hU : U64 b) (hn : No L b) (hr : Rm n L L' true) (a : Option Addr) (c : Nat) (bs : List Int) (hb : Bytes w a 160 bs) (ha : Ok8 w a) (hlen : L'.length < 900000) (hB : B ≤ w.heap.size) :
    Calls Try.prog 11 #[.pointer (some ⟨C, 0, none⟩), .int .u64 b, .slice a 160 c] w fun e w' => e = .returned (.int .i64 0) ∧ (∃ y, Lx w w' y b bs 0 ∧ Cc w' B C n (y :: L')) ∧ Fr B w w' := by
  obtain ⟨⟨rv, h1⟩, h2⟩ := h
  have HF : Box _ := ⟨find_no w B C n rv L h1 b hn⟩
  have HM : Box (∀ x, Below w.heap.size w x → Calls Try.prog 23 #[.pointer (some ⟨C, 0, none⟩)] x fun e w' => e = .returned (.bool true) ∧ (∃ rv', Ca w' B C n rv' L') ∧ Fr B w w') := ⟨fun x hx => (room_any x B C n rv L L' true (h1.below hx) hr).mono (fun e w' h => ⟨h.1, h.2.1, (Fr.of_below hx).trans h.2.2⟩)⟩
  have hsub : ∀ x ∈ L', x ∈ L := fun x hx => hr.sub.subset hx
  have HP : Box (∀ w4 w6 rv4 v6, Ca w4 B C n rv4 L' → Fr B w w4 → w6.ownsRow 0 60 3 v6 (L'.length + 1) (kcs L' ++ kc ⟨b, none, 0, 0, [], 0⟩) → (w4.alloc (.cells #[.int .u64 b, .slice none 0 0, .int .u64 0] 60)).grownBy w6 rv4.ownBlock → (∀ k, v6.ownBlock = some k → rv4.ownBlock = some k ∨ (w4.alloc (.cells #[.int .u64 b, .slice none 0 0, .int .u64 0] 60)).heap.size ≤ k) → _) := ⟨fun w4 w6 rv4 v6 hA4 hF4 ho hg hv => by
    have hC6 : w6.heap[C]? = w4.heap[C]? := by
      rw [hg.block C (by simp; have := hA4.lt; omega) (fun e => hA4.ne e.symm), Below.heap_alloc w4 _ C hA4.lt]
    have hrow : Row w6 v6 (L' ++ [⟨b, none, 0, 0, [], 0⟩]) := by
      unfold Row
      rw [List.length_append, List.length_singleton, kcs_app, kcs_one]
      exact ho
    have hR6 : ∀ k, v6.ownBlock = some k → B ≤ k := fun k hk => by
      rcases hv k hk with h5 | h5
      · exact hA4.hR k h5
      · have := hF4.size
        simp at h5
        omega
    have hA6 := hA4.turn hC6 hrow (fun x hx => by
      rcases List.mem_append.1 hx with hx | hx
      · exact hA4.u x hx
      · simp at hx
        subst hx
        exact ⟨hU, by simp [U64]⟩) hR6 (by simp; omega)
    have hF6 : Fr B w w6 := hF4.trans (fr_grown (Fr.of_below ((Below.refl _ _).alloc (Nat.le_refl _) _)) hg (fun k hk => ⟨hA4.hR k hk, fun _ => hA4.ckr hk⟩))
    have hF7 : Fr B w (w6.setCell ⟨C, 1, none⟩ v6) := by
      refine hF4.trans (fr_set ?_ hA4.hC hA4.ck v6)
      exact fr_grown (Fr.of_below ((Below.refl _ _).alloc (Nat.le_refl _) _)) hg (fun k hk => ⟨hA4.hR k hk, fun _ => hA4.ckr hk⟩)
    have hCc : w6.cell? ⟨C, 1, none⟩ = some rv4 := (World.cell?_of_block (a := ⟨C, 1, none⟩) hC6).trans hA4.cells.2.1
    have hCf : w6.frozen? ⟨C, 1, none⟩ = false := (World.frozen?_of_block (a := ⟨C, 1, none⟩) hC6).trans (hA4.cells.2.2 1)
    have hpe := put_end w (w6.setCell ⟨C, 1, none⟩ v6) B C n v6 _ hA6 L'.length (by simp) hF7 (fun x hx => by rw [erase_last] at hx; exact (h2 x (hsub x hx)).fr hF7) bs a c (bytes_fr hb ha hF7)
    simp only [erase_last, List.getElem_concat_length, List.length_append, List.length_cons, List.length_nil, Nat.zero_add] at hpe
    exact And.intro hCc (And.intro hCf hpe)⟩
  obtain ⟨N, hN⟩ : ∃ N, L'.length = N := ⟨_, rfl⟩
  have HL : Box (L'.length = N ∧ (N + 1) * 40 ≤ 140737488355328) := ⟨hN, by omega⟩
  have hN2 : N < 1000000 := by omega
  clear h1 h2 hn hr hb ha hlen hB hsub hN
  go_enter Try.func11, Try.ntmps11
  go_upto_region 9 with (first
    | (go_at_call 22; refine HF.out.mono ?_; rintro e w3 ⟨rfl, hb3⟩; have B3 : Box _ := ⟨hb3⟩; clear hb3 HF)
    | (go_at_call 23; refine (HM.out _ B3.out).mono ?_; rintro e w4 ⟨rfl, ⟨rv4, h4⟩, f4⟩; obtain ⟨a4, c4, rfl, _, _⟩ := h4.row.form; have k1 := h4.cells.2.1; rw [HL.out.1] at k1; have H4 : Box _ := ⟨h4⟩; have F4 : Box _ := ⟨f4⟩; clear h4 f4 HM)
    | (refine atBuild _ ?_; refine wpList_run rfl _ _ (exec_built 60 [(0, .tmp 33)] rfl [(0, .int .u64 b)] rfl _ (built_K b)) ?_)
    | (at_builtin; refine wpList_app2 rfl _ _ 55 rfl 60 3 40 (.agg #[.int .u64 0, .slice none 0 0, .int .u64 0]) Try.underlying55 infoK rfl (by decide) (.slice a4 N c4) N (kcs L') rfl (by have hq := H4.out.row.alloc (.cells #[.int .u64 b, .slice none 0 0, .int .u64 0] 60); rw [HL.out.1] at hq; exact hq) ⟨w4.heap.size, 0, none⟩ 1 1 (kc ⟨b, none, 0, 0, [], 0⟩) rfl rfl (news_new w4 (kc ⟨b, none, 0, 0, [], 0⟩) _) (one_kc _) HL.out.2 (by decide) ?_; intro v' w6 hown hgr hblk; rw [← HL.out.1] at hown hgr hblk; obtain ⟨q1, q2, g, cap, q3, q4⟩ := HP.out w4 w6 _ v' H4.out F4.out hown hgr hblk; subst q3; rw [HL.out.1] at q1 q4; have H9 : Box _ := ⟨q4⟩; clear hown hgr hblk q4))
  (try rw [HL.out.1])
  clear k1 q1 q2 H4 F4 HP B3
  generalize w6.setCell ⟨C, 1, none⟩ (.slice (some ⟨g, 0, none⟩) (N + 1) cap) = w9 at H9 ⊢
  refine begin_keep (S := fun x => x.cell? ⟨C, 1, none⟩ = some (.slice (some ⟨g, 0, none⟩) (N + 1) cap)) (by kernel_rfl) (fun wd hwd => ?_)
  have hbd : Below w9.heap.size w9 wd := by rw [hwd]; exact (Below.refl _ _).drew
  clear hwd
  have hS := H9.out.1 wd hbd
  refine take_s (i := 0) (v := ?_) rfl (by kernel_rfl) (by kernel_rfl) (by kernel_rfl) (fun _ _ _ h => h) (by rfl) ?_ hS ?_
  rotate_left
  · intro w' hLat; clear hLat; go_simp <;> with_reducible rfl
  try simp only [Act.put, List.setIfInBounds_toArray, List.set_cons_zero, List.set_cons_succ, List.getElem_toArray, List.getElem_cons_zero]
  refine take_s (i := 1) (v := ?_) rfl (by kernel_rfl) (by kernel_rfl) (by kernel_rfl) (fun _ _ _ h => h) (by rfl) ?_ hS ?_
  rotate_left
  · intro w' hLat; clear hLat; go_simp <;> with_reducible rfl
  try simp only [Act.put, List.setIfInBounds_toArray, List.set_cons_zero, List.set_cons_succ, List.getElem_toArray, List.getElem_cons_zero, List.getElem_cons_succ]
  refine take_s (i := 2) (v := ?_) rfl (by kernel_rfl) (by kernel_rfl) (by kernel_rfl) (fun _ _ _ h => h) (by rfl) ?_ hS ?_
  rotate_left
  · intro w' hLat; clear hLat; go_simp <;> with_reducible rfl
  try simp only [Act.put, List.setIfInBounds_toArray, List.set_cons_zero, List.set_cons_succ, List.getElem_toArray, List.getElem_cons_zero, List.getElem_cons_succ]
  refine take_s (i := 3) (v := .slice (some ⟨g, 0, none⟩) (N + 1) cap) rfl (by kernel_rfl) (by kernel_rfl) (by kernel_rfl) (fun _ _ _ h => h) (by rfl) (fun w' hLat => exec_load1 55 _ _ rfl Try.underlying55 rfl _ rfl _ hLat) hS ?_
  try simp only [Act.put, List.setIfInBounds_toArray, List.set_cons_zero, List.set_cons_succ, List.getElem_toArray, List.getElem_cons_zero, List.getElem_cons_succ]
  refine take_s (i := 4) (v := ?_) rfl (by kernel_rfl) (by kernel_rfl) (by kernel_rfl) (fun _ _ _ h => h) (by rfl) ?_ hS ?_
  rotate_left
  · intro w' hLat; clear hLat; go_simp <;> with_reducible rfl
  try simp only [Act.put, List.setIfInBounds_toArray, List.set_cons_zero, List.set_cons_succ, List.getElem_toArray, List.getElem_cons_zero, List.getElem_cons_succ]
  refine take_s (i := 5) (v := ?_) rfl (by kernel_rfl) (by kernel_rfl) (by kernel_rfl) (fun _ _ _ h => h) (by rfl) ?_ hS ?_
  rotate_left
  · intro w' hLat; clear hLat; go_simp <;> with_reducible rfl
  try simp only [Act.put, List.setIfInBounds_toArray, List.set_cons_zero, List.set_cons_succ, List.getElem_toArray, List.getElem_cons_zero, List.getElem_cons_succ]
  refine one_keep (i := 6) (by kernel_rfl) ?_
  refine keep_step rfl (by rfl) ?_
  go_simp
  refine Calls.mono (H9.out.2.1 wd hbd) ?_
  rintro e x1 ⟨a', c', rfl, ho, hb1⟩
  have hbx := below_to hbd hb1
  have hS := H9.out.1 x1 hbx
  refine ⟨hS, ?_⟩
  try simp only [Act.put, List.setIfInBounds_toArray, List.set_cons_zero, List.set_cons_succ, List.getElem_toArray, List.getElem_cons_zero, List.getElem_cons_succ]
  refine take_s (i := 7) (v := .pointer (some ⟨g, N * 3, none⟩)) rfl (by kernel_rfl) (by kernel_rfl) (by kernel_rfl) (fun _ _ _ h => h) (by rfl) (fun w' hLat => exec_idxK _ _ rfl g (N + 1) cap N rfl rfl (by omega)) hS ?_
  try simp only [Act.put, List.setIfInBounds_toArray, List.set_cons_zero, List.set_cons_succ, List.getElem_toArray, List.getElem_cons_zero, List.getElem_cons_succ]
  refine take_s (i := 8) (v := ?_) rfl (by kernel_rfl) (by kernel_rfl) (by kernel_rfl) (fun _ _ _ h => h) (by rfl) ?_ hS ?_
  rotate_left
  · intro w' hLat; clear hLat; go_simp <;> with_reducible rfl
  try simp only [Act.put, List.setIfInBounds_toArray, List.set_cons_zero, List.set_cons_succ, List.getElem_toArray, List.getElem_cons_zero, List.getElem_cons_succ]
  refine one_keep (i := 9) (by kernel_rfl) ?_
  refine keep_step rfl (by rfl) ?_
  have H10 : Box _ := ⟨H9.out.2.2 x1 a' c' hbx (own_low2 ho hbd.size)⟩
  refine wp_store_one 30 (.tmp 47) (.tmp 45) rfl (by kernel_rfl) (.slice a' 160 c') rfl rfl rfl rfl H10.out.1 H10.out.2.1 ?_
  have hS := H10.out.2.2.1
  generalize x1.setCell ⟨g, N * 3 + 1, none⟩ (.slice a' 160 c') = w10 at H10 hS ⊢
  refine ⟨hS, ?_⟩
  try simp only [Act.put, List.getElem_toArray, List.getElem_cons_zero, List.getElem_cons_succ]
  refine wpAnyH_done (by kernel_rfl) ?_ _
  clear H9 hbd hbx ho hb1
  go_wp2_with (go_at_call 25; refine H10.out.2.2.2.mono ?_; rintro e w11 ⟨rfl, h11, f11⟩; have H11 : Box _ := ⟨h11⟩; have F11 : Box _ := ⟨f11⟩; clear h11 f11)
  go_ret
  exact ⟨rfl, H11.out, F11.out⟩
end Go.Proofs.Ythjfobcfdpogeaa
