/-
  What the Go functions there, span, bit, below, Get and Count of package bitmap, and OnesCount8, answer.
-/
import Derived.Test.YtjfcliihgpkhdaaBMA
import Derived.Test.YtjfcliihgpkhdaaR0
import Derived.Deep.QuietTactic
namespace Go.Proofs.Ytjfcliihgpkhdaa
set_option linter.unusedVariables false
open Go.RowKit Plain

def thereB (n : Nat) (i : Int) : Bool := decide (0 ≤ i ∧ i < 8 * (n : Int))
set_option maxHeartbeats 400000 in
theorem there_any (a : Option Addr) (n cap : Nat) (i : Int) (w : World) (hn : n ≤ 100000) (h9 : i ≤ 9223372036854775807) (b : Bool) (hb : thereB n i = b) :
    Calls Try.prog 17 #[.slice a n cap, .int .i64 i] w fun e w' => e = .returned (.bool b) ∧ w = w' := by
  subst hb
  by_cases h0 : 0 ≤ i
  · by_cases h1 : i / 8 < (n : Int)
    · have hd : Box (thereB n i = true) := ⟨by unfold thereB; simp; omega⟩
      rw [hd.out]
      have g2 : decide (i / 8 < (n : Int)) = true := by simpa using h1
      go_enter Try.func17, Try.ntmps17
      go_wp2
      go_ret
      exact ⟨rfl, rfl⟩
    · have hd : Box (thereB n i = false) := ⟨by unfold thereB; simp; omega⟩
      rw [hd.out]
      have g2 : decide (i / 8 < (n : Int)) = false := by simpa using h1
      go_enter Try.func17, Try.ntmps17
      go_wp2
      go_ret
      exact ⟨rfl, rfl⟩
  · have hd : Box (thereB n i = false) := ⟨by unfold thereB; simp; omega⟩
    rw [hd.out]
    go_enter Try.func17, Try.ntmps17
    go_wp2
    go_ret
    exact ⟨rfl, rfl⟩
theorem shl_f : ∀ k : Fin 8, (2 : Int) ^ k.val % 256 = 2 ^ k.val ∧ (0 : Int) ≤ 2 ^ k.val - 1 ∧ (2 : Int) ^ k.val ≤ 255 := by decide +kernel
theorem shl_bt (k : Nat) (h : k < 8) : (2 : Int) ^ k % 256 = 2 ^ k ∧ (0 : Int) ≤ 2 ^ k - 1 ∧ (2 : Int) ^ k ≤ 255 := shl_f ⟨k, h⟩
set_option maxHeartbeats 400000 in
theorem bit_any (i : Nat) (w : World) (hi : i ≤ 1000000) :
    Calls Try.prog 18 #[.int .i64 (i : Int)] w fun e w' => e = .returned (.int .u8 (2 ^ (i % 8))) ∧ w = w' := by
  obtain ⟨k, hk⟩ : ∃ k : Nat, Box ((i : Int) % 8 = (k : Int) ∧ i % 8 = k ∧ k < 8) := ⟨i % 8, ⟨by omega, rfl, by omega⟩⟩
  have HK : Box ((2 : Int) ^ k % 256 = 2 ^ k) := ⟨(shl_bt k hk.out.2.2).1⟩
  have h8 := hk.out.2.2
  have h9 := hk.out.1
  rw [hk.out.2.1]
  go_enter Try.func18, Try.ntmps18
  go_wp2
  go_ret
  exact ⟨by rw [HK.out]; rfl, rfl⟩

def spanB (n : Nat) (a t : Int) : Bool := decide (0 ≤ a ∧ a ≤ t ∧ t ≤ 8 * (n : Int))
set_option maxHeartbeats 400000 in
theorem span_any (p : Option Addr) (n cap : Nat) (a t : Int) (w : World) (hn : n ≤ 100000) (h8 : -9223372036854775808 ≤ t) (h9 : t ≤ 9223372036854775807) (b : Bool) (hb : spanB n a t = b) :
    Calls Try.prog 21 #[.slice p n cap, .int .i64 a, .int .i64 t] w fun e w' => e = .returned (.bool b) ∧ w = w' := by
  subst hb
  by_cases h0 : 0 ≤ a
  · by_cases h1 : a ≤ t
    · by_cases h2 : t = 0
      · have hd : Box (spanB n a t = true) := ⟨by unfold spanB; simp; omega⟩
        rw [hd.out]
        go_enter Try.func21, Try.ntmps21
        go_wp2
        go_ret
        exact ⟨rfl, rfl⟩
      · obtain ⟨b, hb⟩ : ∃ b, spanB n a t = b := ⟨_, rfl⟩
        have ht : thereB n (t - 1) = b := by rw [← hb]; unfold thereB spanB; simp only [decide_eq_decide]; omega
        have HT : Box (Calls Try.prog 17 #[.slice p n cap, .int .i64 (t - 1)] w fun e w' => e = .returned (.bool b) ∧ w = w') := ⟨there_any p n cap (t - 1) w hn (by omega) b ht⟩
        rw [hb]
        clear hb ht
        have g2 : (t == 0) = false := by simpa using h2
        go_enter Try.func21, Try.ntmps21
        go_wp2_with (go_at_call 17; refine Calls.mono HT.out ?_; rintro e w' ⟨rfl, rfl⟩)
        go_ret
        exact ⟨rfl, rfl⟩
    · have hd : Box (spanB n a t = false) := ⟨by unfold spanB; simp; omega⟩
      rw [hd.out]
      have g2 : decide (a ≤ t) = false := by simpa using h1
      go_enter Try.func21, Try.ntmps21
      go_wp2
      go_ret
      exact ⟨rfl, rfl⟩
  · have hd : Box (spanB n a t = false) := ⟨by unfold spanB; simp; omega⟩
    rw [hd.out]
    go_enter Try.func21, Try.ntmps21
    go_wp2
    go_ret
    exact ⟨rfl, rfl⟩

/-- A table of 256 bytes, each the number of bits set in its place. -/
def popT (S : ByteArray) : Bool := S.data.size == 256 && (List.range 256).all fun i => (S.data.getD i 0).toNat == (popk (i : Int) 8).toNat
theorem exec_pop {o : Oper} {ρ : Operand → Value} {w' : World} (x y : Operand) (S : ByteArray) (ho : o.op = .index 9 y x) (hy : ρ y = .string S) (hS : popT S = true) (v : Int) (h0 : 0 ≤ v) (h1 : v ≤ 255) (hx : ρ x = .int .u8 v) : (execOp ρ o).run Try.prog w' = .ok (.value (.int .u8 (popk v 8))) w' := by
  simp only [popT, Bool.and_eq_true, beq_iff_eq, List.all_eq_true, List.mem_range] at hS
  obtain ⟨hs, ht⟩ := hS
  have hz : S.size = 256 := hs
  have h2 := ht v.toNat (by omega)
  have hlt : v.toNat < S.data.size := by rw [hs]; omega
  have e : ((S[v.toNat]'hlt).toNat : Int) = popk v 8 := by
    have h3 := (popk_bd v 8).1
    rw [Int.toNat_of_nonneg h0] at h2
    have h4 : S.data.getD v.toNat 0 = S[v.toNat]'hlt := by
      show S.data.getD v.toNat 0 = S.data[v.toNat]'hlt
      unfold Array.getD
      rw [dif_pos hlt]
      rfl
    rw [h4] at h2
    omega
  unfold execOp
  simp only [ho, hy, hx, Sem.run_bind, Sem.run_pure, Result.andThen_ok, run_index_string w' 9 S .u8 v Try.underlying9, dif_pos (show 0 ≤ v ∧ v < (S.size : Int) from ⟨h0, by omega⟩), e]
set_option maxRecDepth 20000 in
set_option maxHeartbeats 400000 in
theorem ones_any (x : Int) (w : World) (h0 : 0 ≤ x) (h1 : x ≤ 255) :
    Calls Try.prog 23 #[.int .u8 x] w fun e w' => e = .returned (.int .i64 (popk x 8)) ∧ w = w' := by
  have hp := popk_bd x 8
  go_enter Try.func23, Try.ntmps23
  go_wp2_with (refine wpList_run rfl _ _ (exec_pop (.tmp 3) _ _ rfl rfl (by kernel_rfl) x h0 h1 rfl) ?_)
  generalize popk x 8 = p at hp ⊢
  go_wp2
  go_ret
  exact ⟨rfl, rfl⟩
end Go.Proofs.Ytjfcliihgpkhdaa
