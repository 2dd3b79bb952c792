/-
  What the reference's over answers: a key with noughts behind it up to 64 bytes, each xor another.
-/
import Derived.Test.YtanpbceppjpblabDoorK5
import Derived.Test.YtanpbceppjpblabDoorB4
namespace Go.Proofs.YtanpbceppjpblabDoor
set_option linter.unusedVariables false
open Go.RowKit Plain

theorem pad64_low (K : List Int) (i : Nat) (h : i < K.length) : (pad64 K).getD i 0 = K.getD i 0 := getD_app_left _ _ _ h
theorem pad64_high (K : List Int) (i : Nat) (h : K.length ≤ i) : (pad64 K).getD i 0 = 0 := by
  rw [pad64, getD_app, if_neg (by omega)]
  simp only [List.getD, List.getElem?_replicate]
  split <;> simp
theorem ovr_take' (P : List Int) (x : Int) (k : Nat) (h : k < P.length) : ovr (P.take (k + 1)) x = ovr (P.take k) x ++ [bits .xor .u8 (P.getD k 0) x] := by
  have e : P.getD k 0 = P[k] := by simp [List.getD, h]
  rw [e, ovr, ovr, List.take_succ_eq_append_getElem h, List.map_append]
  rfl

set_option maxRecDepth 20000 in
set_option maxHeartbeats 400000 in
theorem rover_any (a : Option Addr) (len cap : Nat) (K : List Int) (x : Int) (w : World) (hb : Bytes w a len K) (hl : len ≤ 64) (hx : 0 ≤ x ∧ x ≤ 255) :
    Calls Tryd.prog 17 #[.slice a len cap, .int .u8 x] w fun e w' => ∃ a' c', e = .returned (.slice a' 64 c') ∧ w'.ownsRow w.heap.size 5 1 (.slice a' 64 c') 64 ((ovr (pad64 K) x).map (Value.int .u8)) ∧ Below w.heap.size w w' ∧ w.heap.size ≤ w'.heap.size := by
  have hKl := hb.1
  have hPl := length_pad64 K (by omega)
  have hKb := hb.2.1
  have HB0 : Box (∀ wr, Below w.heap.size w wr → Bytes wr a len K) := ⟨fun wr hr => hb.below hr⟩
  clear hb
  obtain ⟨P, HP⟩ : ∃ P, Box (pad64 K = P) := named _
  rw [HP.out] at hPl ⊢
  go_enter Tryd.func17, Tryd.ntmps17
  go_wp2
  go_loopw [5, 6] (fun v i wr => ∃ k : Nat, k ≤ 64 ∧ i = .int .i64 k ∧ Box (wr.ownsRow w.heap.size 5 1 v k ((ovr (P.take k) x).map (Value.int .u8)) ∧ Below w.heap.size w wr ∧ w.heap.size ≤ wr.heap.size)) (fun _ i _ => 64 - (intOf i).toNat)
  case atStart => exact ⟨0, Nat.zero_le _, rfl, ⟨World.ownsRow_nil _ _ _ _, Below.refl _ _, Nat.le_refl _⟩⟩
  case round =>
    obtain ⟨k, hk, rfl, HB⟩ := hrel
    obtain ⟨av, cv, hv⟩ := own_form HB.out.1
    subst hv
    by_cases hlt : k < 64
    · have HN : Box (ovr (P.take (k + 1)) x = ovr (P.take k) x ++ [bits .xor .u8 (P.getD k 0) x]) := ⟨ovr_take' P x k (by omega)⟩
      by_cases hin : k < len
      · obtain ⟨b, off, ha, hblt, hc⟩ := (HB0.out wr HB.out.2.1).2.2 (by omega)
        subst ha
        have c1 := hc k hin
        have b1 := hKb k
        have HE : Box (P.getD k 0 = K.getD k 0) := ⟨by rw [← HP.out]; exact pad64_low K k (by omega)⟩
        rw [HE.out] at HN
        generalize K.getD k 0 = z at c1 b1 HN
        clear hc hblt HE
        go_wp2_with (at_builtin; refine wpList_app1 rfl (.tmp 20) (.tmp 24) rfl w.heap.size k _ _ _ w rfl rfl HB.out.1 (by omega) HB.out.2.1 HB.out.2.2 ?_; intro v3 w3 H3)
        go_roundw
        case rel => exact ⟨k + 1, by omega, by go_num, ⟨by rw [HN.out]; exact H3.out.1, H3.out.2⟩⟩
        case measure => simp [intOf]; omega
      · have HE : Box (P.getD k 0 = 0) := ⟨by rw [← HP.out]; exact pad64_high K k (by omega)⟩
        rw [HE.out] at HN
        clear HE
        go_wp2_with (at_builtin; refine wpList_app1 rfl (.tmp 20) (.tmp 24) rfl w.heap.size k _ _ _ w rfl rfl HB.out.1 (by omega) HB.out.2.1 HB.out.2.2 ?_; intro v3 w3 H3)
        go_roundw
        case rel => exact ⟨k + 1, by omega, by go_num, ⟨by rw [HN.out]; exact H3.out.1, H3.out.2⟩⟩
        case measure => simp [intOf]; omega
    · have hk64 : k = 64 := by omega
      subst hk64
      have HF : Box (wr.ownsRow w.heap.size 5 1 (.slice av 64 cv) 64 ((ovr P x).map (Value.int .u8)) ∧ Below w.heap.size w wr ∧ w.heap.size ≤ wr.heap.size) := ⟨by
        have := HB.out.1
        rwa [List.take_of_length_le (by omega)] at this, HB.out.2⟩
      clear HB
      go_wp2
      go_ret
      exact ⟨av, cv, rfl, HF.out⟩
end Go.Proofs.YtanpbceppjpblabDoor
