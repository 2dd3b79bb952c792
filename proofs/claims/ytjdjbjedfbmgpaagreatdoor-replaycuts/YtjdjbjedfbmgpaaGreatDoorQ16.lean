/-
 What Open of package seal answers, for every key, place, all bytes and every number: whether some byte is no nought, asked by a closure; what is refused; what is opened. And what follows it.
-/
import Derived.Test.YtjdjbjedfbmgpaaGreatDoorQ01
import Derived.Test.YtjdjbjedfbmgpaaGreatDoorQ15
set_option linter.unusedVariables false
set_option maxRecDepth 100000
set_option maxRecDepth 100000
namespace Go.Proofs.YtjdjbjedfbmgpaaGreatDoor.Seal.Plain
end Go.Proofs.YtjdjbjedfbmgpaaGreatDoor.Seal.Plain
namespace Go.Proofs.YtjdjbjedfbmgpaaGreatDoor.Seal
open Go.RowKit Go.Proofs.YtjdjbjedfbmgpaaGreatDoor.Plain Go.Proofs.YtjdjbjedfbmgpaaGreatDoor.Seal.Plain
theorem set_any (z : Int) (w : World) : Calls Tryz.prog 122 #[.int .u8 z] w fun e w' => e = .returned (.bool (z != 0)) /\ w = w' := by
 go_enter Tryz.func122, Tryz.ntmps122
 go_wp2
 go_ret
 exact ⟨rfl, rfl⟩
set_option maxRecDepth 20000 in
set_option maxHeartbeats 1000000 in
theorem index_no (a : Option Addr) (len cap : Nat) (L : List Int) (w : World) (hB : Bytes w a len L) (hl : len <= 1000) (h : ∀ i, i < len -> L.getD i 0 = 0) :
  Calls Tryz.prog 134 #[.slice a len cap, .func (.func 122) #[] #[]] w fun e w' => e = .returned (.int .i64 (-1)) /\ w = w' := by
 have HL : Box (∀ k, k < len -> ∃ b off, a = some ⟨b, off, none⟩ /\ w.cell? ⟨b, off + k, none⟩ = some (.int .u8 0)) := ⟨fun k hk => by
  obtain ⟨b, off, ha, _, hc⟩ := hB.2.2 (by omega)
  have := hc k hk
  rw [h k hk] at this
  exact ⟨b, off, ha, this⟩⟩
 have HC : Box (∀ x, Calls Tryz.prog 122 #[.int .u8 0] x fun e w' => e = .returned (.bool false) /\ x = w') := ⟨fun x => set_any 0 x⟩
 clear hB h
 go_enter Tryz.func134, Tryz.ntmps134
 go_wp2
 go_loop [8] (fun i => ∃ k : Nat, k <= len /\ i = .int .i64 k) (fun i => len - (intOf i).toNat)
 case atStart => exact ⟨0, by omega, rfl⟩
 case round =>
  obtain ⟨k, hk, rfl⟩ := hrel
  by_cases hlt : k < len
  ·obtain ⟨b, off, rfl, hcell⟩ := HL.out k hlt
   go_wp2_with (go_at_call 122; refine (HC.out _).mono ?_; rintro e w' ⟨rfl, rfl⟩)
   go_round
   case rel => exact ⟨k + 1, by omega, by go_num⟩
   case measure => simp [intOf]; omega
  ·obtain rfl : k = len := by omega
   go_wp2
   go_ret
   exact ⟨rfl, rfl⟩
set_option maxRecDepth 20000 in
set_option maxHeartbeats 1000000 in
theorem index_yes (a : Option Addr) (len cap : Nat) (L : List Int) (w : World) (hB : Bytes w a len L) (hl : len <= 1000) (i : Nat) (hi : i < len) (h : ¬ L.getD i 0 = 0) :
  Calls Tryz.prog 134 #[.slice a len cap, .func (.func 122) #[] #[]] w fun e w' => ∃ r : Nat, e = .returned (.int .i64 (r : Int)) /\ w = w' := by
 obtain ⟨b, off, rfl, _, hc⟩ := hB.2.2 (by omega)
 have HL : Box (∀ k, k < len -> w.cell? ⟨b, off + k, none⟩ = some (.int .u8 (L.getD k 0))) := ⟨hc⟩
 have HC : Box (∀ x z, Calls Tryz.prog 122 #[.int .u8 z] x fun e w' => e = .returned (.bool (z != 0)) /\ x = w') := ⟨fun x z => set_any z x⟩
 have HI : Box (¬ L.getD i 0 = 0) := ⟨h⟩
 clear hB h hc
 go_enter Tryz.func134, Tryz.ntmps134
 go_wp2
 go_loop [8] (fun v => ∃ k : Nat, k <= i /\ v = .int .i64 k) (fun v => len - (intOf v).toNat)
 case atStart => exact ⟨0, by omega, rfl⟩
 case round =>
  obtain ⟨k, hk, rfl⟩ := hrel
  have hlt : k < len := by omega
  have hcell := HL.out k hlt
  by_cases hz : L.getD k 0 = 0
  ·rw [hz] at hcell
   have hki : ¬ k = i := fun e => HI.out (by rw [<- e]; exact hz)
   have hc0 : Box (∀ x, Calls Tryz.prog 122 #[.int .u8 0] x fun e w' => e = .returned (.bool false) /\ x = w') := ⟨fun x => HC.out x 0⟩
   clear hz
   go_wp2_with (go_at_call 122; refine (hc0.out _).mono ?_; rintro e w' ⟨rfl, rfl⟩)
   go_round
   case rel => exact ⟨k + 1, by omega, by go_num⟩
   case measure => simp [intOf]; omega
  ·have hc0 : Box (∀ x, Calls Tryz.prog 122 #[.int .u8 (L.getD k 0)] x fun e w' => e = .returned (.bool true) /\ x = w') := ⟨fun x => by
    have := HC.out x (L.getD k 0)
    rwa [show (L.getD k 0 != 0) = true by simpa using hz] at this⟩
   clear hz HI HL HC
   generalize L.getD k 0 = z at hcell hc0
   go_wp2_with (go_at_call 122; refine (hc0.out _).mono ?_; rintro e w' ⟨rfl, rfl⟩)
   go_ret
   exact ⟨k, rfl, rfl⟩
theorem contains_no (a : Option Addr) (len cap : Nat) (L : List Int) (w : World) (hB : Bytes w a len L) (hl : len <= 1000) (h : ∀ i, i < len -> L.getD i 0 = 0) :
  Calls Tryz.prog 123 #[.slice a len cap, .func (.func 122) #[] #[]] w fun e w' => e = .returned (.bool false) /\ w = w' := by
 have HI : Box (∀ x, x = w -> Calls Tryz.prog 134 #[.slice a len cap, .func (.func 122) #[] #[]] x fun e w' => e = .returned (.int .i64 (-1)) /\ x = w') := ⟨fun x hx => by subst hx; exact index_no a len cap L x hB hl h⟩
 clear h hB
 go_enter Tryz.func123, Tryz.ntmps123
 go_wp2_with (go_at_call 134; refine (HI.out _ rfl).mono ?_; rintro e w' ⟨rfl, rfl⟩)
 go_ret
 exact ⟨rfl, rfl⟩
theorem contains_yes (a : Option Addr) (len cap : Nat) (L : List Int) (w : World) (hB : Bytes w a len L) (hl : len <= 1000) (i : Nat) (hi : i < len) (h : ¬ L.getD i 0 = 0) :
  Calls Tryz.prog 123 #[.slice a len cap, .func (.func 122) #[] #[]] w fun e w' => e = .returned (.bool true) /\ w = w' := by
 have HI : Box (∀ x, x = w -> Calls Tryz.prog 134 #[.slice a len cap, .func (.func 122) #[] #[]] x fun e w' => ∃ r : Nat, e = .returned (.int .i64 (r : Int)) /\ x = w') := ⟨fun x hx => by subst hx; exact index_yes a len cap L x hB hl i hi h⟩
 clear h hB hi
 go_enter Tryz.func123, Tryz.ntmps123
 go_wp2_with (go_at_call 134; refine (HI.out _ rfl).mono ?_; rintro e w' ⟨r, rfl, rfl⟩; have hr : (0 : Int) <= (r : Int) := Int.natCast_nonneg r)
 go_ret
 exact ⟨rfl, rfl⟩
set_option maxRecDepth 20000 in
set_option maxHeartbeats 1000000 in
theorem open_zero (K : List Int) (p v : Int) (n : Nat) (a : Option Addr) (cap : Nat) (w : World) (hn : n = 160 ∨ n = 176) (hv : v = 0)
  (C1 : Box (∀ x, Below w.heap.size w x -> Calls Tryz.prog 121 #[.slice a 192 cap, .int .i64 0, .int .i64 8] x fun e w' => e = .returned (.tuple #[.int .u64 v, .int .i64 0]) /\ x = w')) :
  Calls Tryz.prog 101 #[.agg (u8s K), .int .u32 p, .slice a 192 cap, .int .i64 (n : Int)] w fun e w' => e = .returned (.tuple #[.int .u64 0, .slice none 0 0, .int .i64 11]) /\ Below w.heap.size w w' := by
 have H0 : Box (Below w.heap.size w (w.alloc (.cells (u8s K) 23))) := ⟨(Below.refl _ _).alloc (Nat.le_refl _) _⟩
 have HF : Box (∀ x, Calls Tryz.prog 95 #[.int .i64 (n : Int)] x fun e w' => e = .returned (.bool true) /\ x = w') := ⟨fun x => sfits_yes _ x (by omega)⟩
 subst hv
 clear hn
 go_enter Tryz.func101, Tryz.ntmps101
 go_upto_region 1 with fail
 generalize w.alloc (.cells (u8s K) 23) = x0 at H0 ⊢
 go_wp2_with (first
  | (go_at_call 121; refine (C1.out x0 H0.out).mono ?_; rintro e w' ⟨rfl, rfl⟩)
  | (go_at_call 95; refine (HF.out _).mono ?_; rintro e w' ⟨rfl, rfl⟩))
 go_ret3
 exact ⟨rfl, H0.out⟩
set_option maxRecDepth 20000 in
set_option maxHeartbeats 1000000 in
theorem open_worn (K : List Int) (p v : Int) (n : Nat) (a : Option Addr) (cap : Nat) (w : World) (hn : n = 160 ∨ n = 176) (hv : v = 18446744073709551615)
  (C1 : Box (∀ x, Below w.heap.size w x -> Calls Tryz.prog 121 #[.slice a 192 cap, .int .i64 0, .int .i64 8] x fun e w' => e = .returned (.tuple #[.int .u64 v, .int .i64 0]) /\ x = w')) :
  Calls Tryz.prog 101 #[.agg (u8s K), .int .u32 p, .slice a 192 cap, .int .i64 (n : Int)] w fun e w' => e = .returned (.tuple #[.int .u64 0, .slice none 0 0, .int .i64 11]) /\ Below w.heap.size w w' := by
 have H0 : Box (Below w.heap.size w (w.alloc (.cells (u8s K) 23))) := ⟨(Below.refl _ _).alloc (Nat.le_refl _) _⟩
 have HF : Box (∀ x, Calls Tryz.prog 95 #[.int .i64 (n : Int)] x fun e w' => e = .returned (.bool true) /\ x = w') := ⟨fun x => sfits_yes _ x (by omega)⟩
 subst hv
 clear hn
 go_enter Tryz.func101, Tryz.ntmps101
 go_upto_region 1 with fail
 generalize w.alloc (.cells (u8s K) 23) = x0 at H0 ⊢
 go_wp2_with (first
  | (go_at_call 121; refine (C1.out x0 H0.out).mono ?_; rintro e w' ⟨rfl, rfl⟩)
  | (go_at_call 95; refine (HF.out _).mono ?_; rintro e w' ⟨rfl, rfl⟩))
 go_ret3
 exact ⟨rfl, H0.out⟩
set_option maxRecDepth 20000 in
set_option maxHeartbeats 1000000 in
theorem open_tail (K : List Int) (p v : Int) (n : Nat) (a : Option Addr) (cap : Nat) (w : World) (hn : n = 160 ∨ n = 176) (m : Nat) (hm : 8 + n = m) (hv0 : ¬ v = 0) (hv1 : ¬ v = 18446744073709551615) (a1 : Option Addr) (hsl : ∀ x, (Instr.sliceAt 57 (.slice a 192 cap) (some (.int .i64 (m : Int))) none none).run Tryz.prog x = .ok (.slice a1 (192 - m) (cap - m)) x)
  (C2 : Box (∀ x, Below w.heap.size w x -> Calls Tryz.prog 123 #[.slice a1 (192 - m) (cap - m), .func (.func 122) #[] #[]] x fun e w' => e = .returned (.bool true) /\ x = w'))
  (C1 : Box (∀ x, Below w.heap.size w x -> Calls Tryz.prog 121 #[.slice a 192 cap, .int .i64 0, .int .i64 8] x fun e w' => e = .returned (.tuple #[.int .u64 v, .int .i64 0]) /\ x = w')) :
  Calls Tryz.prog 101 #[.agg (u8s K), .int .u32 p, .slice a 192 cap, .int .i64 (n : Int)] w fun e w' => e = .returned (.tuple #[.int .u64 0, .slice none 0 0, .int .i64 11]) /\ Below w.heap.size w w' := by
 have H0 : Box (Below w.heap.size w (w.alloc (.cells (u8s K) 23))) := ⟨(Below.refl _ _).alloc (Nat.le_refl _) _⟩
 have HF : Box (∀ x, Calls Tryz.prog 95 #[.int .i64 (n : Int)] x fun e w' => e = .returned (.bool true) /\ x = w') := ⟨fun x => sfits_yes _ x (by omega)⟩
 have g0 : (v == 0) = false := by simpa using hv0
 have g1 : (v == 18446744073709551615) = false := by simpa using hv1
 have e8 : IntKind.i64.wrap (8 + (n : Int)) = (m : Int) := by rw [IntKind.wrap_i64]; omega
 clear hn hm hv0 hv1
 go_enter Tryz.func101, Tryz.ntmps101
 go_upto_region 1 with fail
 generalize w.alloc (.cells (u8s K) 23) = x0 at H0 ⊢
 go_wp2_with (first
  | (go_at_call 123; refine (C2.out x0 H0.out).mono ?_; rintro e w' ⟨rfl, rfl⟩)
  | (go_at_call 121; refine (C1.out x0 H0.out).mono ?_; rintro e w' ⟨rfl, rfl⟩)
  | (go_at_call 95; refine (HF.out _).mono ?_; rintro e w' ⟨rfl, rfl⟩))
 go_ret3
 exact ⟨rfl, H0.out⟩
set_option maxRecDepth 20000 in
set_option maxHeartbeats 1000000 in
theorem open_in (K D : List Int) (p v : Int) (n : Nat) (a : Option Addr) (cap : Nat) (w : World) (hKl : K.length = 32) (hn : n = 160 ∨ n = 176) (m : Nat) (hm : 8 + n = m) (hv0 : ¬ v = 0) (hv1 : ¬ v = 18446744073709551615) (a1 a2 : Option Addr)
  (hsl : ∀ x, (Instr.sliceAt 57 (.slice a 192 cap) (some (.int .i64 (m : Int))) none none).run Tryz.prog x = .ok (.slice a1 (192 - m) (cap - m)) x)
  (hsm : ∀ x, (Instr.sliceAt 57 (.slice a 192 cap) (some (.int .i64 8)) (some (.int .i64 (m : Int))) none).run Tryz.prog x = .ok (.slice a2 (m - 8) (cap - 8)) x)
  (C2 : Box (∀ x, Below w.heap.size w x -> Calls Tryz.prog 123 #[.slice a1 (192 - m) (cap - m), .func (.func 122) #[] #[]] x fun e w' => e = .returned (.bool false) /\ x = w'))
  (C3 : Box (∀ x, Below w.heap.size w x -> Calls Tryz.prog 96 #[.agg (u8s K), .int .u32 p, .int .u64 v, .slice a2 (m - 8) (cap - 8)] x fun e w' => ∃ a', e = .returned (.slice a' n n) /\ Bytes w' a' n D /\ Below x.heap.size x w'))
  (C1 : Box (∀ x, Below w.heap.size w x -> Calls Tryz.prog 121 #[.slice a 192 cap, .int .i64 0, .int .i64 8] x fun e w' => e = .returned (.tuple #[.int .u64 v, .int .i64 0]) /\ x = w')) :
  Calls Tryz.prog 101 #[.agg (u8s K), .int .u32 p, .slice a 192 cap, .int .i64 (n : Int)] w fun e w' => ∃ a', e = .returned (.tuple #[.int .u64 v, .slice a' n n, .int .i64 0]) /\ Bytes w' a' n D /\ Below w.heap.size w w' := by
 obtain ⟨S, hS⟩ : ∃ S, w.heap.size = S := ⟨_, rfl⟩
 have HS : Hid (w.heap.size = S) := hS
 have H1 : Box ((w.alloc (.cells (u8s K) 23)).heap[S]? = some (.cells (u8s K) 23 (0, 0)) /\ Below w.heap.size w (w.alloc (.cells (u8s K) 23))) := ⟨al_at hS, (Below.refl _ _).alloc (Nat.le_refl _) _⟩
 have HF : Box (∀ x, Calls Tryz.prog 95 #[.int .i64 (n : Int)] x fun e w' => e = .returned (.bool true) /\ x = w') := ⟨fun x => sfits_yes _ x (by omega)⟩
 have g0 : (v == 0) = false := by simpa using hv0
 have g1 : (v == 18446744073709551615) = false := by simpa using hv1
 have e8 : IntKind.i64.wrap (8 + (n : Int)) = (m : Int) := by rw [IntKind.wrap_i64]; omega
 clear hn hm hv0 hv1 hS
 go_enter Tryz.func101, Tryz.ntmps101
 go_upto_region 1 with fail
 rw [HS.out]
 generalize w.alloc (.cells (u8s K) 23) = x0 at H1 ⊢
 go_upto_region 9 with (first
  | (go_at_call 123; refine (C2.out x0 H1.out.2).mono ?_; rintro e w' ⟨rfl, rfl⟩)
  | (go_at_call 121; refine (C1.out x0 H1.out.2).mono ?_; rintro e w' ⟨rfl, rfl⟩)
  | (go_at_call 95; refine (HF.out _).mono ?_; rintro e w' ⟨rfl, rfl⟩))
 clear C1 C2 HF hsl
 refine Seq.begin_any (by kernel_rfl) (fun wd hd => ?_)
 refine Seq.take_lx (i := 0) (v := ?_) rfl ?_ ?_
 rotate_left
 ·rintro w' -; go_simp <;> with_reducible rfl
 try simp only [Act.put, pC, pD, pE, pF, pG]
 refine Seq.take_lx (i := 1) (v := .agg (u8s K)) rfl (fun w' hLat => exec_load8 23 32 Tryz.underlying23 size32 (.tmp 4) rfl S rfl K hKl (row_on (row_on H1.out.1 hd) hLat)) ?_
 try simp only [Act.put, pC, pD, pE, pF, pG, pH]
 refine Seq.take_lx (i := 2) (v := ?_) rfl ?_ ?_
 rotate_left
 ·rintro w' -; go_simp <;> with_reducible rfl
 try simp only [Act.put, pC, pD, pE, pF, pG, pH]
 refine Seq.take_lx (i := 3) (v := ?_) rfl ?_ ?_
 rotate_left
 ·rintro w' -; go_simp <;> with_reducible rfl
 try simp only [Act.put, pC, pD, pE, pF, pG, pH]
 refine Seq.take_lx (i := 4) (v := ?_) rfl ?_ ?_
 rotate_left
 ·rintro w' -; go_simp <;> with_reducible rfl
 try simp only [Act.put, pC, pD, pE, pF, pG, pH]
 refine Seq.take_lx (i := 5) (v := ?_) rfl ?_ ?_
 rotate_left
 ·rintro w' -; go_simp <;> with_reducible rfl
 try simp only [Act.put, pC, pD, pE, pF, pG, pH]
 refine Seq.take_lx (i := 6) (v := ?_) rfl ?_ ?_
 rotate_left
 ·rintro w' -; go_simp <;> with_reducible rfl
 try simp only [Act.put, pC, pD, pE, pF, pG, pH]
 refine Seq.take_lx (i := 7) (v := .slice a2 (m - 8) (cap - 8)) rfl (fun w' hLat => exec_slice 57 (.tmp 43) (some (.const (.int .i64 8))) (some (.tmp 45)) rfl _ (hsm w')) ?_
 try simp only [Act.put, pC, pD, pE, pF, pG, pH]
 refine Seq.only_lat (i := 8) rfl (by kernel_rfl) (fun KK hK => ?_)
 rw [if_pos (by rfl)]
 go_simp
 refine Calls.mono (C3.out wd (below_to H1.out.2 hd)) ?_
 rintro e w3 ⟨a3, rfl, hB3, hb3⟩
 have H3 : Box (Bytes w3 a3 n D /\ Below w.heap.size w w3) := ⟨hB3, below_to (below_to H1.out.2 hd) hb3⟩
 refine hK.out _ _ hb3 ?_
 clear hb3 hB3
 clear hK KK
 try simp only [Act.put, pC, pD, pE, pF, pG, pH]
 refine Seq.take_lx (i := 9) (v := ?_) rfl ?_ ?_
 rotate_left
 ·rintro w' -; go_simp <;> with_reducible rfl
 try simp only [Act.put, pC, pD, pE, pF, pG, pH]
 refine Seq.take_lx (i := 10) (v := ?_) rfl ?_ ?_
 rotate_left
 ·rintro w' -; go_simp <;> with_reducible rfl
 try simp only [Act.put, pC, pD, pE, pF, pG, pH]
 refine Seq.take_lx (i := 11) (v := ?_) rfl ?_ ?_
 rotate_left
 ·rintro w' -; go_simp <;> with_reducible rfl
 try simp only [Act.put, pC, pD, pE, pF, pG, pH]
 refine wpAnyH_done (by kernel_rfl) ?_ _
 go_wp2
 go_ret3
 exact ⟨a3, rfl, H3.out.1, H3.out.2⟩
def Fit (L : List Int) (n : Nat) : Prop := ¬ num L 0 8 = 0 /\ ¬ num L 0 8 = 18446744073709551615 /\ ∀ i, 8 + n <= i -> i < 192 -> L.getD i 0 = 0
def op (K : List Int) (p : Int) (L : List Int) (n : Nat) : List Int := cr K 0 (non p (num L 0 8)) ((L.take (8 + n)).drop 8) n
theorem length_op (K : List Int) (p : Int) (L : List Int) (n : Nat) : (op K p L n).length = n := length_cr _ _ _ _ _
theorem byt_op (K : List Int) (p : Int) (L : List Int) (n : Nat) : Byt (op K p L n) := byt_cr _ _ _ _ _
theorem num8 (L : List Int) (h : Byt L) : 0 <= num L 0 8 /\ num L 0 8 <= 18446744073709551615 := by
 have := num_bd L 0 h 8
 simp at this
 omega
theorem open_form (K L : List Int) (p : Int) (n : Nat) (a : Option Addr) (cap : Nat) (w : World) (hn : n = 160 ∨ n = 176) (hB : Bytes w a 192 L) (hc : 192 <= cap) (h : ¬ Fit L n) :
  Calls Tryz.prog 101 #[.agg (u8s K), .int .u32 p, .slice a 192 cap, .int .i64 (n : Int)] w fun e w' => e = .returned (.tuple #[.int .u64 0, .slice none 0 0, .int .i64 11]) /\ Below w.heap.size w w' := by
 have C1 : Box (∀ x, Below w.heap.size w x -> Calls Tryz.prog 121 #[.slice a 192 cap, .int .i64 0, .int .i64 8] x fun e w' => e = .returned (.tuple #[.int .u64 (num L 0 8), .int .i64 0]) /\ x = w') := ⟨fun x hx => get_ok a 192 cap L 0 8 x (hB.below hx) (by unfold maxLen; omega) (by omega) (by omega) (by omega)⟩
 by_cases h0 : num L 0 8 = 0
 ·exact open_zero K p _ n a cap w hn h0 C1
 ·by_cases h1 : num L 0 8 = 18446744073709551615
  ·exact open_worn K p _ n a cap w hn h1 C1
  ·obtain ⟨i, hi⟩ := Classical.not_forall.1 (fun hh => h ⟨h0, h1, hh⟩)
   have hi1 : 8 + n <= i := Classical.byContradiction fun hx => hi fun h => absurd h hx
   have hi2 : i < 192 := Classical.byContradiction fun hx => hi fun _ h => absurd h hx
   have hi3 : ¬ L.getD i 0 = 0 := fun hx => hi fun _ _ => hx
   obtain ⟨a1, hsl, hsb⟩ := slice_lo a 192 cap (8 + n) (by omega) hc
   refine open_tail K p _ n a cap w hn (8 + n) rfl h0 h1 a1 hsl ⟨fun x hx => contains_yes a1 _ _ (L.drop (8 + n)) x (hsb x L (hB.below hx)) (by omega) (i - (8 + n)) (by omega) ?_⟩ C1
   simp only [List.getD, List.getElem?_drop]
   rw [show 8 + n + (i - (8 + n)) = i by omega]
   exact hi3
theorem open_ok (K L : List Int) (p : Int) (n : Nat) (a : Option Addr) (cap : Nat) (w : World) (hT : Tab w) (hKl : K.length = 32) (hKb : Byt K) (hp : W32 p) (hn : n = 160 ∨ n = 176) (hB : Bytes w a 192 L) (hc : 192 <= cap) (h : Fit L n) :
  Calls Tryz.prog 101 #[.agg (u8s K), .int .u32 p, .slice a 192 cap, .int .i64 (n : Int)] w fun e w' => ∃ a', e = .returned (.tuple #[.int .u64 (num L 0 8), .slice a' n n, .int .i64 0]) /\ Bytes w' a' n (op K p L n) /\ Below w.heap.size w w' := by
 have C1 : Box (∀ x, Below w.heap.size w x -> Calls Tryz.prog 121 #[.slice a 192 cap, .int .i64 0, .int .i64 8] x fun e w' => e = .returned (.tuple #[.int .u64 (num L 0 8), .int .i64 0]) /\ x = w') := ⟨fun x hx => get_ok a 192 cap L 0 8 x (hB.below hx) (by unfold maxLen; omega) (by omega) (by omega) (by omega)⟩
 obtain ⟨a1, hsl, hsb⟩ := slice_lo a 192 cap (8 + n) (by omega) hc
 obtain ⟨a2, hsm, hmb⟩ := slice_mid a 192 cap 8 (8 + n) (by omega) (by omega) hc
 refine open_in K (op K p L n) p _ n a cap w hKl hn (8 + n) rfl h.1 h.2.1 a1 a2 hsl hsm ⟨fun x hx => contains_no a1 _ _ (L.drop (8 + n)) x (hsb x L (hB.below hx)) (by omega) fun i hi => ?_⟩ ⟨fun x hx => ?_⟩ C1
 ·simp only [List.getD, List.getElem?_drop]
  exact h.2.2 (8 + n + i) (by omega) (by omega)
 ·have hmx := hmb x L (hB.below hx)
  rw [show 8 + n - 8 = n by omega] at hmx ⊢
  exact scrypt_any K _ p _ a2 n (cap - 8) x (hT.below hx) hKl hKb hp (num8 L hB.2.1) hmx (by omega)
end Go.Proofs.YtjdjbjedfbmgpaaGreatDoor.Seal
namespace Go.Proofs.YtjdjbjedfbmgpaaGreatDoor.Seal.Plain
end Go.Proofs.YtjdjbjedfbmgpaaGreatDoor.Seal.Plain
namespace Go.Proofs.YtjdjbjedfbmgpaaGreatDoor.Seal
open Go.RowKit Go.Proofs.YtjdjbjedfbmgpaaGreatDoor.Plain Go.Proofs.YtjdjbjedfbmgpaaGreatDoor.Seal.Plain
theorem sl_at (K : List Int) (p v : Int) (B : List Int) (n i : Nat) (hB : B.length = n) (hn : n <= 184) (hi : i < 192) : (sl K p v B).getD i 0 = if i < 8 then byteAt v i else if i < 8 + n then xr (B.getD (i - 8) 0) (stm K 0 (non p v) (i - 8)) else 0 := by
 have hl : (bytesOf v 8 ++ cr K 0 (non p v) B n).length = 8 + n := by rw [List.length_append, length_bytesOf, length_cr]
 unfold sl padTo
 rw [hB, List.take_of_length_le (by omega), getD_app, hl]
 by_cases h8 : i < 8
 ·rw [if_pos (by omega), if_pos h8, getD_app, if_pos (by rw [length_bytesOf]; exact h8), bytesOf_get v 8 i h8]
 ·rw [if_neg h8]
  by_cases hn' : i < 8 + n
  ·rw [if_pos hn', if_pos hn', getD_app, if_neg (by rw [length_bytesOf]; exact h8), length_bytesOf, cr_at _ _ _ _ _ _ (by omega)]
  ·rw [if_neg hn', if_neg hn']
   simp only [List.getD, List.getElem?_replicate]
   split <;> simp
theorem sl_num (K : List Int) (p v : Int) (B : List Int) (n : Nat) (hB : B.length = n) (hn : n <= 184) (hv : 0 <= v /\ v <= 18446744073709551615) : num (sl K p v B) 0 8 = v := by
 rw [num_congr (sl K p v B) (bytesOf v 8) 0 0 8 (fun t ht => by
  rw [sl_at K p v B n (0 + t) hB hn (by omega), if_pos (by omega), bytesOf_get v 8 (0 + t) (by omega)])]
 have h := num_bytesOf v 8 8 (by omega)
 have h2 : v % 2 ^ (8 * 8) = v := Int.emod_eq_of_lt hv.1 (by omega)
 rw [h2] at h
 exact h
theorem sl_fit (K : List Int) (p v : Int) (B : List Int) (n : Nat) (hB : B.length = n) (hn : n <= 184) (hv : 0 <= v /\ v <= 18446744073709551615) (h0 : ¬ v = 0) (h1 : ¬ v = 18446744073709551615) : Fit (sl K p v B) n := by
 unfold Fit
 rw [sl_num K p v B n hB hn hv]
 exact ⟨h0, h1, fun i h1 h2 => by rw [sl_at K p v B n i hB hn h2, if_neg (by omega), if_neg (by omega)]⟩
theorem mid_at (L : List Int) (n i : Nat) (h : i < n) : ((L.take (8 + n)).drop 8).getD i 0 = L.getD (8 + i) 0 := by
 simp only [List.getD, List.getElem?_drop, List.getElem?_take]
 rw [if_pos (by omega)]
theorem op_sl (K : List Int) (p v : Int) (B : List Int) (n : Nat) (hB : B.length = n) (hb : Byt B) (hn : n <= 184) (hv : 0 <= v /\ v <= 18446744073709551615) : op K p (sl K p v B) n = B := by
 unfold op
 rw [sl_num K p v B n hB hn hv]
 apply eq_getD _ _ n (length_cr _ _ _ _ _) hB
 intro i hi
 rw [cr_at _ _ _ _ _ _ hi, mid_at _ _ _ hi, sl_at K p v B n (8 + i) hB hn (by omega), if_neg (by omega), if_pos (by omega), show 8 + i - 8 = i by omega, xr_xr _ _ (hb i) (stm_bd _ _ _ _)]
end Go.Proofs.YtjdjbjedfbmgpaaGreatDoor.Seal
