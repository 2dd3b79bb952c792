/-
  What the reference's Find answers, for every argument; the walk of EqualBytes: bytes are the same just if they are, and where some stand first among others is what the reference says: the law returns true.
-/
import Derived.Test.YtggkapgfljdgdaaJ4
import Derived.Deep.QuietTactic
import Derived.BigQuiet
namespace Go.Proofs.Ytggkapgfljdgdaa
set_option linter.unusedVariables false
open Go.RowKit Plain

theorem bytes_drewN' {w : World} {a : Option Addr} {len : Nat} {L : List Int} (h : Bytes w a len L) (n : Nat) : Bytes (w.drewN n) a len L := h.below (below_drewN (Below.refl _ _) n)

theorem drewN_on {w x : World} (h : ∃ m, x = w.drewN m) (n : Nat) : ∃ m, x.drewN n = w.drewN m := by
  obtain ⟨m, rfl⟩ := h
  exact ⟨m + n, World.drewN_drewN _ _ _⟩

set_option maxHeartbeats 1000000 in
theorem rfind_any (a : Option Addr) (n cap : Nat) (va : Nat → Option Addr) (vl vc : Nat → Nat) (C : Nat → List Int) (b : Option Addr) (lb cb : Nat) (B : List Int) (w : World) (hP : Pcs w a n va vl vc C) (hn : n ≤ 9223372036854775807) (hB : Bytes w b lb B) (hlb : lb ≤ 9223372036854775807) :
    Calls Try.prog 11 #[.slice a n cap, .slice b lb cb] w fun e w' => e = .returned (.int .i64 (hit C n B)) ∧ ∃ m, w' = w.drewN m := by
  have HP : Box (∀ x, Below w.heap.size w x → Pcs x a n va vl vc C ∧ Bytes x b lb B) := ⟨fun x hx => ⟨hP.below hx, hB.below hx⟩⟩
  have HH : Box (Hit C n B (hit C n B)) := ⟨hit_is C n B hn⟩
  clear hP hB
  go_enter Try.func11, Try.ntmps11
  go_wp2
  go_loopw [5] (fun i wr => ∃ k : Nat, k ≤ n ∧ i = .int .i64 k ∧ Box ((∀ j, j < k → C j ≠ B) ∧ ∃ m, wr = w.drewN m)) (fun i _ => n - (intOf i).toNat)
  case atStart => exact ⟨0, Nat.zero_le _, rfl, ⟨fun j hj => by omega, 0, rfl⟩⟩
  case round =>
    obtain ⟨k, hk, rfl, HI⟩ := hrel
    by_cases hlt : k < n
    · obtain ⟨hPw, hBw⟩ := HP.out wr (by obtain ⟨m, rfl⟩ := HI.out.2; exact below_drewN (Below.refl _ _) m)
      obtain ⟨b1, o1, e1, hbl, c1⟩ := hPw.1 (by omega)
      subst e1
      have d1 := c1 k hlt
      obtain ⟨p1, p2, p3⟩ := hPw.2 k hlt
      have q1 : ∀ m, (convert 22 9 (.slice (va k) (vl k) (vc k))).run Try.prog (wr.drewN m) = .ok (.string (strOfNums (C k))) (wr.drewN m) := fun m => conv_bytes (bytes_drewN' p1 m) (vc k)
      have q2 : ∀ m, (convert 22 9 (.slice b lb cb)).run Try.prog (wr.drewN m) = .ok (.string (strOfNums B)) (wr.drewN m) := fun m => conv_bytes (bytes_drewN' hBw m) cb
      have HQ : Box (((strOfNums (C k)).toList == (strOfNums B).toList) = decide (C k = B)) := ⟨str_beq _ _ p1.2.1 hBw.2.1⟩
      clear c1 p1 hPw hBw hbl
      generalize va k = ga at d1 q1
      generalize vl k = gl at d1 q1 p2
      generalize vc k = gc at d1 q1 p2 p3
      by_cases hE : C k = B
      · rw [hE] at q1
        generalize strOfNums B = sB at q1 q2
        have HK : Box (hit C n B = (k : Int)) := ⟨HH.out.only (.inr ⟨k, hlt, rfl, hE, HI.out.1⟩)⟩
        clear HQ hE HH HP
        go_wp2
        go_quiet (fail)
        go_wp2
        go_ret
        exact ⟨by rw [HK.out]; rfl, drewN_on HI.out.2 nq⟩
      · have hne : ((strOfNums (C k)).toList == (strOfNums B).toList) = false := by rw [HQ.out]; simp [hE]
        have HN : Box (∀ j, j < k + 1 → C j ≠ B) := ⟨fun j hj => by
          by_cases h : j < k
          · exact HI.out.1 j h
          · obtain rfl : j = k := by omega
            exact hE⟩
        generalize strOfNums B = sB at q1 q2 hne
        generalize strOfNums (C k) = sC at q1 q2 hne
        clear HQ hE
        go_wp2
        go_quiet (fail)
        go_wp2
        go_roundw
        case rel => exact ⟨k + 1, by omega, by go_num, ⟨HN.out, drewN_on HI.out.2 nq⟩⟩
        case measure => simp [intOf]; omega
    · obtain rfl : k = n := by omega
      have HK : Box (hit C k B = -1) := ⟨HH.out.only (.inl ⟨rfl, HI.out.1⟩)⟩
      go_wp2
      go_ret
      exact ⟨by rw [HK.out]; rfl, HI.out.2⟩

set_option maxHeartbeats 2000000 in
theorem bytes_core (a b : Option Addr) (la ca lb cb : Nat) (A B : List Int) (l : Option Addr) (n cl : Nat) (va : Nat → Option Addr) (vl vc : Nat → Nat) (C : Nat → List Int) (w : World) (hA : Bytes w a la A) (hB : Bytes w b lb B) (hP : Pcs w l n va vl vc C) (h1 : la ≤ 3000) (h2 : lb ≤ 3000) (h3 : n ≤ 100)
    (p : Bool) (sA sB : ByteArray) (hp : decide (A = B) = p) (hs : (sA.toList == sB.toList) = p) (eA : strOfNums A = sA) (eB : strOfNums B = sB) :
    Calls Try.prog 3 #[.slice a la ca, .slice b lb cb, .slice l n cl] w fun e w' => e = .returned (.bool true) ∧ ∃ m, w' = w.drewN m := by
  have d1 : ¬ 3000 < (la : Int) := by omega
  have d2 : ¬ 3000 < (lb : Int) := by omega
  have d3 : ¬ 100 < (n : Int) := by omega
  have e1 : ((p == p) = true) := by simp
  have HC : Box (∀ m u v, (u = .slice a la ca ∧ v = .slice b lb cb) ∨ (u = .slice b lb cb ∧ v = .slice a la ca) → Calls Try.prog 9 #[u, v] (w.drewN m) fun e w' => e = .returned (.bool p) ∧ w' = w.drewN m) := ⟨fun m u v h => by
    rcases h with ⟨rfl, rfl⟩ | ⟨rfl, rfl⟩
    · rw [← hp]
      exact (bytes_any a b la ca lb cb A B _ (bytes_drewN' hA m) (bytes_drewN' hB m) (by omega) (by omega)).mono fun _ _ ⟨h1, h2⟩ => ⟨h1, h2.symm⟩
    · rw [← hp, show decide (A = B) = decide (B = A) by simp [eq_comm]]
      exact (bytes_any b a lb cb la ca B A _ (bytes_drewN' hB m) (bytes_drewN' hA m) (by omega) (by omega)).mono fun _ _ ⟨h1, h2⟩ => ⟨h1, h2.symm⟩⟩
  have HF : Box (∀ m, Calls Try.prog 10 #[.slice l n cl, .slice a la ca] (w.drewN m) fun e w' => e = .returned (.int .i64 (hit C n A)) ∧ w' = w.drewN m) := ⟨fun m => (find_any l n cl va vl vc C a la ca A _ (hP.below (below_drewN (Below.refl _ _) m)) (by omega) (bytes_drewN' hA m) (by omega)).mono fun _ _ ⟨h1, h2⟩ => ⟨h1, h2.symm⟩⟩
  have HR : Box (∀ m, Calls Try.prog 11 #[.slice l n cl, .slice a la ca] (w.drewN m) fun e w' => e = .returned (.int .i64 (hit C n A)) ∧ ∃ k, w' = (w.drewN m).drewN k) := ⟨fun m => rfind_any l n cl va vl vc C a la ca A _ (hP.below (below_drewN (Below.refl _ _) m)) (by omega) (bytes_drewN' hA m) (by omega)⟩
  have HP : Box (Pcs w l n va vl vc C) := ⟨hP⟩
  have q1 : ∀ m, (convert 22 9 (.slice a la ca)).run Try.prog (w.drewN m) = .ok (.string sA) (w.drewN m) := fun m => by rw [← eA]; exact conv_bytes (bytes_drewN' hA m) ca
  have q2 : ∀ m, (convert 22 9 (.slice b lb cb)).run Try.prog (w.drewN m) = .ok (.string sB) (w.drewN m) := fun m => by rw [← eB]; exact conv_bytes (bytes_drewN' hB m) cb
  generalize hit C n A = r at HF HR
  clear hA hB hP hp eA eB
  go_enter Try.func3, Try.ntmps3
  go_wp2_with (go_at_call 8; refine (awake_any _).mono ?_; rintro e w' ⟨rfl, rfl⟩)
  go_loop [8] (fun i => ∃ k : Nat, k ≤ n ∧ i = .int .i64 k) (fun i => n - (intOf i).toNat)
  case atStart => exact ⟨0, Nat.zero_le _, rfl⟩
  case round =>
    obtain ⟨k, hk, rfl⟩ := hrel
    by_cases hlt : k < n
    · obtain ⟨b1, o1, e1, _, c1⟩ := HP.out.1 (by omega)
      subst e1
      have d1 := c1 k hlt
      obtain ⟨p1, p2, p3⟩ := HP.out.2 k hlt
      clear c1 p1
      generalize va k = ga at d1
      generalize vl k = gl at d1 p2
      generalize vc k = gc at d1 p2 p3
      by_cases hg : gl ≤ 500
      · have g1 : ¬ 500 < (gl : Int) := by omega
        go_wp2
        go_round
        case rel => exact ⟨k + 1, by omega, by go_num⟩
        case measure => simp [intOf]; omega
      · have g1 : 500 < (gl : Int) := by omega
        go_wp2
        go_ret
        exact ⟨rfl, 0, rfl⟩
    · obtain rfl : k = n := by omega
      clear HP
      go_wp2
      go_quiet (first
        | (go_at_call 11; exact Calls.quiet_of (HR.out _))
        | (go_at_call 10; exact Calls.quiet_of_same (HF.out _))
        | (go_at_call 9; exact Calls.quiet_of_same (HC.out _ _ _ (by first | exact .inl ⟨rfl, rfl⟩ | exact .inr ⟨rfl, rfl⟩))))
      go_wp2
      go_ret
      exact ⟨rfl, nq, rfl⟩
end Go.Proofs.Ytggkapgfljdgdaa
