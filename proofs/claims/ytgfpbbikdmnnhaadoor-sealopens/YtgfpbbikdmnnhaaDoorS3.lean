/-
  What Open of package seal answers, for every key, place, all bytes and every number: whether some byte is no nought, asked by a closure; what is refused; what is opened.
-/
import Derived.Test.YtgfpbbikdmnnhaaDoorS2
namespace Go.Proofs.YtgfpbbikdmnnhaaDoor
set_option linter.unusedVariables false
open Go.RowKit Plain

theorem set_any (z : Int) (w : World) : Calls Tryd.prog 22 #[.int .u8 z] w fun e w' => e = .returned (.bool (z != 0)) ∧ w = w' := by
  go_enter Tryd.func22, Tryd.ntmps22
  go_wp2
  go_ret
  exact ⟨rfl, rfl⟩
set_option maxRecDepth 20000 in
set_option maxHeartbeats 1000000 in
theorem index_no (a : Option Addr) (len cap : Nat) (L : List Int) (w : World) (hB : Bytes w a len L) (hl : len ≤ 1000) (h : ∀ i, i < len → L.getD i 0 = 0) :
    Calls Tryd.prog 31 #[.slice a len cap, .func (.func 22) #[] #[]] w fun e w' => e = .returned (.int .i64 (-1)) ∧ w = w' := by
  have HL : Box (∀ k, k < len → ∃ b off, a = some ⟨b, off, none⟩ ∧ w.cell? ⟨b, off + k, none⟩ = some (.int .u8 0)) := ⟨fun k hk => by
    obtain ⟨b, off, ha, _, hc⟩ := hB.2.2 (by omega)
    have := hc k hk
    rw [h k hk] at this
    exact ⟨b, off, ha, this⟩⟩
  have HC : Box (∀ x, Calls Tryd.prog 22 #[.int .u8 0] x fun e w' => e = .returned (.bool false) ∧ x = w') := ⟨fun x => set_any 0 x⟩
  clear hB h
  go_enter Tryd.func31, Tryd.ntmps31
  go_wp2
  go_loop [8] (fun i => ∃ k : Nat, k ≤ len ∧ i = .int .i64 k) (fun i => len - (intOf i).toNat)
  case atStart => exact ⟨0, by omega, rfl⟩
  case round =>
    obtain ⟨k, hk, rfl⟩ := hrel
    by_cases hlt : k < len
    · obtain ⟨b, off, rfl, hcell⟩ := HL.out k hlt
      go_wp2_with (go_at_call 22; refine (HC.out _).mono ?_; rintro e w' ⟨rfl, rfl⟩)
      go_round
      case rel => exact ⟨k + 1, by omega, by go_num⟩
      case measure => simp [intOf]; omega
    · obtain rfl : k = len := by omega
      go_wp2
      go_ret
      exact ⟨rfl, rfl⟩
set_option maxRecDepth 20000 in
set_option maxHeartbeats 1000000 in
theorem index_yes (a : Option Addr) (len cap : Nat) (L : List Int) (w : World) (hB : Bytes w a len L) (hl : len ≤ 1000) (i : Nat) (hi : i < len) (h : ¬ L.getD i 0 = 0) :
    Calls Tryd.prog 31 #[.slice a len cap, .func (.func 22) #[] #[]] w fun e w' => ∃ r : Nat, e = .returned (.int .i64 (r : Int)) ∧ w = w' := by
  obtain ⟨b, off, rfl, _, hc⟩ := hB.2.2 (by omega)
  have HL : Box (∀ k, k < len → w.cell? ⟨b, off + k, none⟩ = some (.int .u8 (L.getD k 0))) := ⟨hc⟩
  have HC : Box (∀ x z, Calls Tryd.prog 22 #[.int .u8 z] x fun e w' => e = .returned (.bool (z != 0)) ∧ x = w') := ⟨fun x z => set_any z x⟩
  have HI : Box (¬ L.getD i 0 = 0) := ⟨h⟩
  clear hB h hc
  go_enter Tryd.func31, Tryd.ntmps31
  go_wp2
  go_loop [8] (fun v => ∃ k : Nat, k ≤ i ∧ v = .int .i64 k) (fun v => len - (intOf v).toNat)
  case atStart => exact ⟨0, by omega, rfl⟩
  case round =>
    obtain ⟨k, hk, rfl⟩ := hrel
    have hlt : k < len := by omega
    have hcell := HL.out k hlt
    by_cases hz : L.getD k 0 = 0
    · rw [hz] at hcell
      have hki : ¬ k = i := fun e => HI.out (by rw [← e]; exact hz)
      have hc0 : Box (∀ x, Calls Tryd.prog 22 #[.int .u8 0] x fun e w' => e = .returned (.bool false) ∧ x = w') := ⟨fun x => HC.out x 0⟩
      clear hz
      go_wp2_with (go_at_call 22; refine (hc0.out _).mono ?_; rintro e w' ⟨rfl, rfl⟩)
      go_round
      case rel => exact ⟨k + 1, by omega, by go_num⟩
      case measure => simp [intOf]; omega
    · have hc0 : Box (∀ x, Calls Tryd.prog 22 #[.int .u8 (L.getD k 0)] x fun e w' => e = .returned (.bool true) ∧ x = w') := ⟨fun x => by
        have := HC.out x (L.getD k 0)
        rwa [show (L.getD k 0 != 0) = true by simpa using hz] at this⟩
      clear hz HI HL HC
      generalize L.getD k 0 = z at hcell hc0
      go_wp2_with (go_at_call 22; refine (hc0.out _).mono ?_; rintro e w' ⟨rfl, rfl⟩)
      go_ret
      exact ⟨k, rfl, rfl⟩
theorem contains_no (a : Option Addr) (len cap : Nat) (L : List Int) (w : World) (hB : Bytes w a len L) (hl : len ≤ 1000) (h : ∀ i, i < len → L.getD i 0 = 0) :
    Calls Tryd.prog 23 #[.slice a len cap, .func (.func 22) #[] #[]] w fun e w' => e = .returned (.bool false) ∧ w = w' := by
  have HI : Box (∀ x, x = w → Calls Tryd.prog 31 #[.slice a len cap, .func (.func 22) #[] #[]] x fun e w' => e = .returned (.int .i64 (-1)) ∧ x = w') := ⟨fun x hx => by subst hx; exact index_no a len cap L x hB hl h⟩
  clear h hB
  go_enter Tryd.func23, Tryd.ntmps23
  go_wp2_with (go_at_call 31; refine (HI.out _ rfl).mono ?_; rintro e w' ⟨rfl, rfl⟩)
  go_ret
  exact ⟨rfl, rfl⟩
theorem contains_yes (a : Option Addr) (len cap : Nat) (L : List Int) (w : World) (hB : Bytes w a len L) (hl : len ≤ 1000) (i : Nat) (hi : i < len) (h : ¬ L.getD i 0 = 0) :
    Calls Tryd.prog 23 #[.slice a len cap, .func (.func 22) #[] #[]] w fun e w' => e = .returned (.bool true) ∧ w = w' := by
  have HI : Box (∀ x, x = w → Calls Tryd.prog 31 #[.slice a len cap, .func (.func 22) #[] #[]] x fun e w' => ∃ r : Nat, e = .returned (.int .i64 (r : Int)) ∧ x = w') := ⟨fun x hx => by subst hx; exact index_yes a len cap L x hB hl i hi h⟩
  clear h hB hi
  go_enter Tryd.func23, Tryd.ntmps23
  go_wp2_with (go_at_call 31; refine (HI.out _ rfl).mono ?_; rintro e w' ⟨r, rfl, rfl⟩; have hr : (0 : Int) ≤ (r : Int) := Int.natCast_nonneg r)
  go_ret
  exact ⟨rfl, rfl⟩

set_option maxRecDepth 20000 in
set_option maxHeartbeats 1000000 in
theorem open_arg (K : List Int) (p n : Int) (a : Option Addr) (len cap : Nat) (w : World) (h1 : ¬ n = 160) (h2 : ¬ n = 176) :
    Calls Tryd.prog 12 #[.agg (u8s K), .int .u32 p, .slice a len cap, .int .i64 n] w fun e w' => e = .returned (.tuple #[.int .u64 0, .slice none 0 0, .int .i64 1]) ∧ Below w.heap.size w w' := by
  have H0 : Box (Below w.heap.size w (w.alloc (.cells (u8s K) 23))) := ⟨(Below.refl _ _).alloc (Nat.le_refl _) _⟩
  have HF : Box (∀ x, Calls Tryd.prog 14 #[.int .i64 n] x fun e w' => e = .returned (.bool false) ∧ x = w') := ⟨fun x => sfits_no _ x h1 h2⟩
  clear h1 h2
  go_enter Tryd.func12, Tryd.ntmps12
  go_upto_region 1 with fail
  generalize w.alloc (.cells (u8s K) 23) = x0 at H0 ⊢
  go_wp2_with (go_at_call 14; refine (HF.out _).mono ?_; rintro e w' ⟨rfl, rfl⟩)
  go_ret3
  exact ⟨rfl, H0.out⟩
set_option maxRecDepth 20000 in
set_option maxHeartbeats 1000000 in
theorem open_len (K : List Int) (p n : Int) (a : Option Addr) (len cap : Nat) (w : World) (h : n = 160 ∨ n = 176) (hl : ¬ len = 192) :
    Calls Tryd.prog 12 #[.agg (u8s K), .int .u32 p, .slice a len cap, .int .i64 n] w fun e w' => e = .returned (.tuple #[.int .u64 0, .slice none 0 0, .int .i64 11]) ∧ Below w.heap.size w w' := by
  have H0 : Box (Below w.heap.size w (w.alloc (.cells (u8s K) 23))) := ⟨(Below.refl _ _).alloc (Nat.le_refl _) _⟩
  have HF : Box (∀ x, Calls Tryd.prog 14 #[.int .i64 n] x fun e w' => e = .returned (.bool true) ∧ x = w') := ⟨fun x => sfits_yes _ x h⟩
  have g1 : ((len : Int) != 192) = true := by simp; omega
  clear h
  go_enter Tryd.func12, Tryd.ntmps12
  go_upto_region 1 with fail
  generalize w.alloc (.cells (u8s K) 23) = x0 at H0 ⊢
  go_wp2_with (go_at_call 14; refine (HF.out _).mono ?_; rintro e w' ⟨rfl, rfl⟩)
  go_ret3
  exact ⟨rfl, H0.out⟩

set_option maxRecDepth 20000 in
set_option maxHeartbeats 1000000 in
theorem open_zero (K : List Int) (p v : Int) (n : Nat) (a : Option Addr) (cap : Nat) (w : World) (hn : n = 160 ∨ n = 176) (hv : v = 0)
    (C1 : Box (∀ x, Below w.heap.size w x → Calls Tryd.prog 21 #[.slice a 192 cap, .int .i64 0, .int .i64 8] x fun e w' => e = .returned (.tuple #[.int .u64 v, .int .i64 0]) ∧ x = w')) :
    Calls Tryd.prog 12 #[.agg (u8s K), .int .u32 p, .slice a 192 cap, .int .i64 (n : Int)] w fun e w' => e = .returned (.tuple #[.int .u64 0, .slice none 0 0, .int .i64 11]) ∧ Below w.heap.size w w' := by
  have H0 : Box (Below w.heap.size w (w.alloc (.cells (u8s K) 23))) := ⟨(Below.refl _ _).alloc (Nat.le_refl _) _⟩
  have HF : Box (∀ x, Calls Tryd.prog 14 #[.int .i64 (n : Int)] x fun e w' => e = .returned (.bool true) ∧ x = w') := ⟨fun x => sfits_yes _ x (by omega)⟩
  subst hv
  clear hn
  go_enter Tryd.func12, Tryd.ntmps12
  go_upto_region 1 with fail
  generalize w.alloc (.cells (u8s K) 23) = x0 at H0 ⊢
  go_wp2_with (first
    | (go_at_call 21; refine (C1.out x0 H0.out).mono ?_; rintro e w' ⟨rfl, rfl⟩)
    | (go_at_call 14; refine (HF.out _).mono ?_; rintro e w' ⟨rfl, rfl⟩))
  go_ret3
  exact ⟨rfl, H0.out⟩

set_option maxRecDepth 20000 in
set_option maxHeartbeats 1000000 in
theorem open_worn (K : List Int) (p v : Int) (n : Nat) (a : Option Addr) (cap : Nat) (w : World) (hn : n = 160 ∨ n = 176) (hv : v = 18446744073709551615)
    (C1 : Box (∀ x, Below w.heap.size w x → Calls Tryd.prog 21 #[.slice a 192 cap, .int .i64 0, .int .i64 8] x fun e w' => e = .returned (.tuple #[.int .u64 v, .int .i64 0]) ∧ x = w')) :
    Calls Tryd.prog 12 #[.agg (u8s K), .int .u32 p, .slice a 192 cap, .int .i64 (n : Int)] w fun e w' => e = .returned (.tuple #[.int .u64 0, .slice none 0 0, .int .i64 11]) ∧ Below w.heap.size w w' := by
  have H0 : Box (Below w.heap.size w (w.alloc (.cells (u8s K) 23))) := ⟨(Below.refl _ _).alloc (Nat.le_refl _) _⟩
  have HF : Box (∀ x, Calls Tryd.prog 14 #[.int .i64 (n : Int)] x fun e w' => e = .returned (.bool true) ∧ x = w') := ⟨fun x => sfits_yes _ x (by omega)⟩
  subst hv
  clear hn
  go_enter Tryd.func12, Tryd.ntmps12
  go_upto_region 1 with fail
  generalize w.alloc (.cells (u8s K) 23) = x0 at H0 ⊢
  go_wp2_with (first
    | (go_at_call 21; refine (C1.out x0 H0.out).mono ?_; rintro e w' ⟨rfl, rfl⟩)
    | (go_at_call 14; refine (HF.out _).mono ?_; rintro e w' ⟨rfl, rfl⟩))
  go_ret3
  exact ⟨rfl, H0.out⟩

set_option maxRecDepth 20000 in
set_option maxHeartbeats 1000000 in
theorem open_tail (K : List Int) (p v : Int) (n : Nat) (a : Option Addr) (cap : Nat) (w : World) (hn : n = 160 ∨ n = 176) (m : Nat) (hm : 8 + n = m) (hv0 : ¬ v = 0) (hv1 : ¬ v = 18446744073709551615) (a1 : Option Addr) (hsl : ∀ x, (Instr.sliceAt 26 (.slice a 192 cap) (some (.int .i64 (m : Int))) none none).run Tryd.prog x = .ok (.slice a1 (192 - m) (cap - m)) x)
    (C2 : Box (∀ x, Below w.heap.size w x → Calls Tryd.prog 23 #[.slice a1 (192 - m) (cap - m), .func (.func 22) #[] #[]] x fun e w' => e = .returned (.bool true) ∧ x = w'))
    (C1 : Box (∀ x, Below w.heap.size w x → Calls Tryd.prog 21 #[.slice a 192 cap, .int .i64 0, .int .i64 8] x fun e w' => e = .returned (.tuple #[.int .u64 v, .int .i64 0]) ∧ x = w')) :
    Calls Tryd.prog 12 #[.agg (u8s K), .int .u32 p, .slice a 192 cap, .int .i64 (n : Int)] w fun e w' => e = .returned (.tuple #[.int .u64 0, .slice none 0 0, .int .i64 11]) ∧ Below w.heap.size w w' := by
  have H0 : Box (Below w.heap.size w (w.alloc (.cells (u8s K) 23))) := ⟨(Below.refl _ _).alloc (Nat.le_refl _) _⟩
  have HF : Box (∀ x, Calls Tryd.prog 14 #[.int .i64 (n : Int)] x fun e w' => e = .returned (.bool true) ∧ x = w') := ⟨fun x => sfits_yes _ x (by omega)⟩
  have g0 : (v == 0) = false := by simpa using hv0
  have g1 : (v == 18446744073709551615) = false := by simpa using hv1
  have e8 : IntKind.i64.wrap (8 + (n : Int)) = (m : Int) := by rw [IntKind.wrap_i64]; omega
  clear hn hm hv0 hv1
  go_enter Tryd.func12, Tryd.ntmps12
  go_upto_region 1 with fail
  generalize w.alloc (.cells (u8s K) 23) = x0 at H0 ⊢
  go_wp2_with (first
    | (go_at_call 23; refine (C2.out x0 H0.out).mono ?_; rintro e w' ⟨rfl, rfl⟩)
    | (go_at_call 21; refine (C1.out x0 H0.out).mono ?_; rintro e w' ⟨rfl, rfl⟩)
    | (go_at_call 14; refine (HF.out _).mono ?_; rintro e w' ⟨rfl, rfl⟩))
  go_ret3
  exact ⟨rfl, H0.out⟩

set_option maxRecDepth 20000 in
set_option maxHeartbeats 1000000 in
theorem open_in (K D : List Int) (p v : Int) (n : Nat) (a : Option Addr) (cap : Nat) (w : World) (hKl : K.length = 32) (hn : n = 160 ∨ n = 176) (m : Nat) (hm : 8 + n = m) (hv0 : ¬ v = 0) (hv1 : ¬ v = 18446744073709551615) (a1 a2 : Option Addr)
    (hsl : ∀ x, (Instr.sliceAt 26 (.slice a 192 cap) (some (.int .i64 (m : Int))) none none).run Tryd.prog x = .ok (.slice a1 (192 - m) (cap - m)) x)
    (hsm : ∀ x, (Instr.sliceAt 26 (.slice a 192 cap) (some (.int .i64 8)) (some (.int .i64 (m : Int))) none).run Tryd.prog x = .ok (.slice a2 (m - 8) (cap - 8)) x)
    (C2 : Box (∀ x, Below w.heap.size w x → Calls Tryd.prog 23 #[.slice a1 (192 - m) (cap - m), .func (.func 22) #[] #[]] x fun e w' => e = .returned (.bool false) ∧ x = w'))
    (C3 : Box (∀ x, Below w.heap.size w x → Calls Tryd.prog 15 #[.agg (u8s K), .int .u32 p, .int .u64 v, .slice a2 (m - 8) (cap - 8)] x fun e w' => ∃ a', e = .returned (.slice a' n n) ∧ Bytes w' a' n D ∧ Below x.heap.size x w'))
    (C1 : Box (∀ x, Below w.heap.size w x → Calls Tryd.prog 21 #[.slice a 192 cap, .int .i64 0, .int .i64 8] x fun e w' => e = .returned (.tuple #[.int .u64 v, .int .i64 0]) ∧ x = w')) :
    Calls Tryd.prog 12 #[.agg (u8s K), .int .u32 p, .slice a 192 cap, .int .i64 (n : Int)] w fun e w' => ∃ a', e = .returned (.tuple #[.int .u64 v, .slice a' n n, .int .i64 0]) ∧ Bytes w' a' n D ∧ Below w.heap.size w w' := by
  obtain ⟨S, hS⟩ : ∃ S, w.heap.size = S := ⟨_, rfl⟩
  have HS : Hid (w.heap.size = S) := hS
  have H1 : Box ((w.alloc (.cells (u8s K) 23)).heap[S]? = some (.cells (u8s K) 23 (0, 0)) ∧ Below w.heap.size w (w.alloc (.cells (u8s K) 23))) := ⟨al_at hS, (Below.refl _ _).alloc (Nat.le_refl _) _⟩
  have HF : Box (∀ x, Calls Tryd.prog 14 #[.int .i64 (n : Int)] x fun e w' => e = .returned (.bool true) ∧ x = w') := ⟨fun x => sfits_yes _ x (by omega)⟩
  have g0 : (v == 0) = false := by simpa using hv0
  have g1 : (v == 18446744073709551615) = false := by simpa using hv1
  have e8 : IntKind.i64.wrap (8 + (n : Int)) = (m : Int) := by rw [IntKind.wrap_i64]; omega
  clear hn hm hv0 hv1 hS
  go_enter Tryd.func12, Tryd.ntmps12
  go_upto_region 1 with fail
  rw [HS.out]
  generalize w.alloc (.cells (u8s K) 23) = x0 at H1 ⊢
  go_upto_region 9 with (first
    | (go_at_call 23; refine (C2.out x0 H1.out.2).mono ?_; rintro e w' ⟨rfl, rfl⟩)
    | (go_at_call 21; refine (C1.out x0 H1.out.2).mono ?_; rintro e w' ⟨rfl, rfl⟩)
    | (go_at_call 14; refine (HF.out _).mono ?_; rintro e w' ⟨rfl, rfl⟩))
  clear C1 C2 HF hsl
  refine Seq.begin_any (by kernel_rfl) (fun wd hd => ?_)
  refine Seq.take_lat (i := 0) (v := ?_) rfl (by kernel_rfl) (by kernel_rfl) (by kernel_rfl) (fun _ _ _ h => h) (by rfl) ?_ ?_
  rotate_left
  · intro w' hLat; change Below _ _ _ at hLat; go_simp <;> with_reducible rfl
  try simp only [Act.put, List.setIfInBounds_toArray, List.set_cons_zero, List.set_cons_succ, List.getElem_toArray, List.getElem_cons_zero]
  refine Seq.take_lat (i := 1) (v := .agg (u8s K)) rfl (by kernel_rfl) (by kernel_rfl) (by kernel_rfl) (fun _ _ _ h => h) (by rfl) (fun w' hLat => exec_load8 23 32 Tryd.underlying23 size32 (.tmp 4) rfl S rfl K hKl (row_on (row_on H1.out.1 hd) hLat)) ?_
  try simp only [Act.put, List.setIfInBounds_toArray, List.set_cons_zero, List.set_cons_succ, List.getElem_toArray, List.getElem_cons_zero, List.getElem_cons_succ]
  refine Seq.take_lat (i := 2) (v := ?_) rfl (by kernel_rfl) (by kernel_rfl) (by kernel_rfl) (fun _ _ _ h => h) (by rfl) ?_ ?_
  rotate_left
  · intro w' hLat; change Below _ _ _ at hLat; go_simp <;> with_reducible rfl
  try simp only [Act.put, List.setIfInBounds_toArray, List.set_cons_zero, List.set_cons_succ, List.getElem_toArray, List.getElem_cons_zero, List.getElem_cons_succ]
  refine Seq.take_lat (i := 3) (v := ?_) rfl (by kernel_rfl) (by kernel_rfl) (by kernel_rfl) (fun _ _ _ h => h) (by rfl) ?_ ?_
  rotate_left
  · intro w' hLat; change Below _ _ _ at hLat; go_simp <;> with_reducible rfl
  try simp only [Act.put, List.setIfInBounds_toArray, List.set_cons_zero, List.set_cons_succ, List.getElem_toArray, List.getElem_cons_zero, List.getElem_cons_succ]
  refine Seq.take_lat (i := 4) (v := ?_) rfl (by kernel_rfl) (by kernel_rfl) (by kernel_rfl) (fun _ _ _ h => h) (by rfl) ?_ ?_
  rotate_left
  · intro w' hLat; change Below _ _ _ at hLat; go_simp <;> with_reducible rfl
  try simp only [Act.put, List.setIfInBounds_toArray, List.set_cons_zero, List.set_cons_succ, List.getElem_toArray, List.getElem_cons_zero, List.getElem_cons_succ]
  refine Seq.take_lat (i := 5) (v := ?_) rfl (by kernel_rfl) (by kernel_rfl) (by kernel_rfl) (fun _ _ _ h => h) (by rfl) ?_ ?_
  rotate_left
  · intro w' hLat; change Below _ _ _ at hLat; go_simp <;> with_reducible rfl
  try simp only [Act.put, List.setIfInBounds_toArray, List.set_cons_zero, List.set_cons_succ, List.getElem_toArray, List.getElem_cons_zero, List.getElem_cons_succ]
  refine Seq.take_lat (i := 6) (v := ?_) rfl (by kernel_rfl) (by kernel_rfl) (by kernel_rfl) (fun _ _ _ h => h) (by rfl) ?_ ?_
  rotate_left
  · intro w' hLat; change Below _ _ _ at hLat; go_simp <;> with_reducible rfl
  try simp only [Act.put, List.setIfInBounds_toArray, List.set_cons_zero, List.set_cons_succ, List.getElem_toArray, List.getElem_cons_zero, List.getElem_cons_succ]
  refine Seq.take_lat (i := 7) (v := .slice a2 (m - 8) (cap - 8)) rfl (by kernel_rfl) (by kernel_rfl) (by kernel_rfl) (fun _ _ _ h => h) (by rfl) (fun w' hLat => exec_slice 26 (.tmp 43) (some (.const (.int .i64 8))) (some (.tmp 45)) rfl _ (hsm w')) ?_
  try simp only [Act.put, List.setIfInBounds_toArray, List.set_cons_zero, List.set_cons_succ, List.getElem_toArray, List.getElem_cons_zero, List.getElem_cons_succ]
  refine Seq.only_lat (i := 8) rfl (by kernel_rfl) (fun KK hK => ?_)
  rw [if_pos (by rfl)]
  go_simp
  refine Calls.mono (C3.out wd (below_to H1.out.2 hd)) ?_
  rintro e w3 ⟨a3, rfl, hB3, hb3⟩
  have H3 : Box (Bytes w3 a3 n D ∧ Below w.heap.size w w3) := ⟨hB3, below_to (below_to H1.out.2 hd) hb3⟩
  refine hK.out _ _ hb3 ?_
  clear hb3 hB3
  clear hK KK
  try simp only [Act.put, List.setIfInBounds_toArray, List.set_cons_zero, List.set_cons_succ, List.getElem_toArray, List.getElem_cons_zero, List.getElem_cons_succ]
  refine Seq.take_lat (i := 9) (v := ?_) rfl (by kernel_rfl) (by kernel_rfl) (by kernel_rfl) (fun _ _ _ h => h) (by rfl) ?_ ?_
  rotate_left
  · intro w' hLat; change Below _ _ _ at hLat; go_simp <;> with_reducible rfl
  try simp only [Act.put, List.setIfInBounds_toArray, List.set_cons_zero, List.set_cons_succ, List.getElem_toArray, List.getElem_cons_zero, List.getElem_cons_succ]
  refine Seq.take_lat (i := 10) (v := ?_) rfl (by kernel_rfl) (by kernel_rfl) (by kernel_rfl) (fun _ _ _ h => h) (by rfl) ?_ ?_
  rotate_left
  · intro w' hLat; change Below _ _ _ at hLat; go_simp <;> with_reducible rfl
  try simp only [Act.put, List.setIfInBounds_toArray, List.set_cons_zero, List.set_cons_succ, List.getElem_toArray, List.getElem_cons_zero, List.getElem_cons_succ]
  refine Seq.take_lat (i := 11) (v := ?_) rfl (by kernel_rfl) (by kernel_rfl) (by kernel_rfl) (fun _ _ _ h => h) (by rfl) ?_ ?_
  rotate_left
  · intro w' hLat; change Below _ _ _ at hLat; go_simp <;> with_reducible rfl
  try simp only [Act.put, List.setIfInBounds_toArray, List.set_cons_zero, List.set_cons_succ, List.getElem_toArray, List.getElem_cons_zero, List.getElem_cons_succ]
  refine wpAnyH_done (by kernel_rfl) ?_ _
  go_wp2
  go_ret3
  exact ⟨a3, rfl, H3.out.1, H3.out.2⟩

/-- What may be opened as so many bytes. -/
def Fit (L : List Int) (n : Nat) : Prop := ¬ num L 0 8 = 0 ∧ ¬ num L 0 8 = 18446744073709551615 ∧ ∀ i, 8 + n ≤ i → i < 192 → L.getD i 0 = 0
/-- The bytes that are opened. -/
def op (K : List Int) (p : Int) (L : List Int) (n : Nat) : List Int := cr K 0 (non p (num L 0 8)) ((L.take (8 + n)).drop 8) n
theorem length_op (K : List Int) (p : Int) (L : List Int) (n : Nat) : (op K p L n).length = n := length_cr _ _ _ _ _
theorem byt_op (K : List Int) (p : Int) (L : List Int) (n : Nat) : Byt (op K p L n) := byt_cr _ _ _ _ _
theorem num8 (L : List Int) (h : Byt L) : 0 ≤ num L 0 8 ∧ num L 0 8 ≤ 18446744073709551615 := by
  have := num_bd L 0 h 8
  simp at this
  omega
theorem open_form (K L : List Int) (p : Int) (n : Nat) (a : Option Addr) (cap : Nat) (w : World) (hn : n = 160 ∨ n = 176) (hB : Bytes w a 192 L) (hc : 192 ≤ cap) (h : ¬ Fit L n) :
    Calls Tryd.prog 12 #[.agg (u8s K), .int .u32 p, .slice a 192 cap, .int .i64 (n : Int)] w fun e w' => e = .returned (.tuple #[.int .u64 0, .slice none 0 0, .int .i64 11]) ∧ Below w.heap.size w w' := by
  have C1 : Box (∀ x, Below w.heap.size w x → Calls Tryd.prog 21 #[.slice a 192 cap, .int .i64 0, .int .i64 8] x fun e w' => e = .returned (.tuple #[.int .u64 (num L 0 8), .int .i64 0]) ∧ x = w') := ⟨fun x hx => get_ok a 192 cap L 0 8 x (hB.below hx) (by unfold maxLen; omega) (by omega) (by omega) (by omega)⟩
  by_cases h0 : num L 0 8 = 0
  · exact open_zero K p _ n a cap w hn h0 C1
  · by_cases h1 : num L 0 8 = 18446744073709551615
    · exact open_worn K p _ n a cap w hn h1 C1
    · obtain ⟨i, hi⟩ := Classical.not_forall.1 (fun hh => h ⟨h0, h1, hh⟩)
      have hi1 : 8 + n ≤ i := Classical.byContradiction fun hx => hi fun h => absurd h hx
      have hi2 : i < 192 := Classical.byContradiction fun hx => hi fun _ h => absurd h hx
      have hi3 : ¬ L.getD i 0 = 0 := fun hx => hi fun _ _ => hx
      obtain ⟨a1, hsl, hsb⟩ := slice_lo a 192 cap (8 + n) (by omega) hc
      refine open_tail K p _ n a cap w hn (8 + n) rfl h0 h1 a1 hsl ⟨fun x hx => contains_yes a1 _ _ (L.drop (8 + n)) x (hsb x L (hB.below hx)) (by omega) (i - (8 + n)) (by omega) ?_⟩ C1
      simp only [List.getD, List.getElem?_drop]
      rw [show 8 + n + (i - (8 + n)) = i by omega]
      exact hi3
theorem open_ok (K L : List Int) (p : Int) (n : Nat) (a : Option Addr) (cap : Nat) (w : World) (hT : Tab w) (hKl : K.length = 32) (hKb : Byt K) (hp : W32 p) (hn : n = 160 ∨ n = 176) (hB : Bytes w a 192 L) (hc : 192 ≤ cap) (h : Fit L n) :
    Calls Tryd.prog 12 #[.agg (u8s K), .int .u32 p, .slice a 192 cap, .int .i64 (n : Int)] w fun e w' => ∃ a', e = .returned (.tuple #[.int .u64 (num L 0 8), .slice a' n n, .int .i64 0]) ∧ Bytes w' a' n (op K p L n) ∧ Below w.heap.size w w' := by
  have C1 : Box (∀ x, Below w.heap.size w x → Calls Tryd.prog 21 #[.slice a 192 cap, .int .i64 0, .int .i64 8] x fun e w' => e = .returned (.tuple #[.int .u64 (num L 0 8), .int .i64 0]) ∧ x = w') := ⟨fun x hx => get_ok a 192 cap L 0 8 x (hB.below hx) (by unfold maxLen; omega) (by omega) (by omega) (by omega)⟩
  obtain ⟨a1, hsl, hsb⟩ := slice_lo a 192 cap (8 + n) (by omega) hc
  obtain ⟨a2, hsm, hmb⟩ := slice_mid a 192 cap 8 (8 + n) (by omega) (by omega) hc
  refine open_in K (op K p L n) p _ n a cap w hKl hn (8 + n) rfl h.1 h.2.1 a1 a2 hsl hsm ⟨fun x hx => contains_no a1 _ _ (L.drop (8 + n)) x (hsb x L (hB.below hx)) (by omega) fun i hi => ?_⟩ ⟨fun x hx => ?_⟩ C1
  · simp only [List.getD, List.getElem?_drop]
    exact h.2.2 (8 + n + i) (by omega) (by omega)
  · have hmx := hmb x L (hB.below hx)
    rw [show 8 + n - 8 = n by omega] at hmx ⊢
    exact scrypt_any K _ p _ a2 n (cap - 8) x (hT.below hx) hKl hKb hp (num8 L hB.2.1) hmx (by omega)
end Go.Proofs.YtgfpbbikdmnnhaaDoor
