/-
  What New, find and Clear of package buffers answer, and slices.IndexFunc of a row of blocks.
-/
import Derived.Test.YthjfobcfdpogeaaBA
namespace Go.Proofs.Ythjfobcfdpogeaa
set_option linter.unusedVariables false
open Go.RowKit Plain

theorem built_C (n : Int) : Try.prog.built 57 [(0, .int .i64 n)] = some #[.int .i64 n, .slice none 0 0] := by kernel_rfl
theorem cc_new (w : World) (B : Nat) (hB : B ≤ w.heap.size) (n : Int) : Cc (w.alloc (.cells #[.int .i64 n, .slice none 0 0] 57)) B w.heap.size n [] :=
  ⟨⟨_, al_at rfl, World.ownsRow_nil _ _ _ _, fun x hx => by simp at hx, hB, fun k hk => by simp [Value.ownBlock] at hk, by simp⟩, fun x hx => by simp at hx⟩
set_option maxHeartbeats 1000000 in
theorem new_any (w : World) (B : Nat) (hB : B ≤ w.heap.size) (n : Int) : Calls Try.prog 9 #[.int .i64 n] w fun e w' => e = .returned (.pointer (some ⟨w.heap.size, 0, none⟩)) ∧ Cc w' B w.heap.size n [] ∧ Below w.heap.size w w' := by
  have H : Box _ := ⟨cc_new w B hB n⟩
  clear hB
  go_enter Try.func9, Try.ntmps9
  go_wp2_with (refine atBuild _ ?_; refine wpList_run rfl _ _ (exec_built 57 [(0, .tmp 3)] rfl [(0, .int .i64 n)] rfl _ (built_C n)) ?_)
  go_ret
  exact ⟨rfl, H.out, (Below.refl _ w).alloc (Nat.le_refl _) _⟩
set_option maxHeartbeats 1000000 in
theorem is_any (w : World) (x : Kp) (b : Int) (S : Nat) (hS : w.cell? ⟨S, 0, none⟩ = some (.int .u64 b)) :
    Calls Try.prog 31 #[.agg (kc x).toArray, .pointer (some ⟨S, 0, none⟩)] w fun e w' => e = .returned (.bool (decide (x.b = b))) ∧ Below w.heap.size w w' := by
  have c0 : (w.alloc (.cells (kc x).toArray 60)).cell? ⟨w.heap.size, 0, none⟩ = some (.int .u64 x.b) := by rw [cell_of_row _ _ _ _ _ _ (al_at rfl)]; rfl
  have cS : (w.alloc (.cells (kc x).toArray 60)).cell? ⟨S, 0, none⟩ = some (.int .u64 b) := cell_al _ hS
  have HE : Box ((x.b == b) = decide (x.b = b)) := ⟨by
    by_cases h : x.b = b
    · simp [h]
    · simp [h]⟩
  have hb : Box (Below w.heap.size w (w.alloc (.cells (kc x).toArray 60))) := ⟨(Below.refl _ _).alloc (Nat.le_refl _) _⟩
  clear hS
  go_enter Try.func31, Try.ntmps31
  go_upto_region 1 with fail
  generalize w.alloc (.cells (kc x).toArray 60) = w1 at hb c0 cS ⊢
  go_wp2
  go_ret
  exact ⟨by rw [← HE.out]; rfl, hb.out⟩
set_option maxRecDepth 20000 in
set_option maxHeartbeats 2000000 in
theorem index_any (w : World) (a : Option Addr) (cap S : Nat) (b : Int) (L : List Kp) (hW : Ways w a L) (hl : L.length < 1000000) (hS : w.cell? ⟨S, 0, none⟩ = some (.int .u64 b)) :
    Calls Try.prog 30 #[.slice a L.length cap, .func (.func 31) #[] #[.pointer (some ⟨S, 0, none⟩)]] w fun e w' => Below w.heap.size w w' ∧ ((e = .returned (.int .i64 (-1)) ∧ No L b) ∨ ∃ k : Nat, e = .returned (.int .i64 (k : Int)) ∧ Fs L b k) := by
  have HW : Box (Ways w a L) := ⟨hW⟩
  have HS : Box (w.cell? ⟨S, 0, none⟩ = some (.int .u64 b)) := ⟨hS⟩
  have hl2 : L.length < 9223372036854775807 := by omega
  clear hW hS
  go_enter Try.func30, Try.ntmps30
  go_wp2
  go_loopw [8] (fun j wr => ∃ k : Nat, k ≤ L.length ∧ j = .int .i64 k ∧ Box (Below w.heap.size w wr ∧ ∀ q (h : q < L.length), q < k → L[q].b ≠ b)) (fun j _ => L.length - (intOf j).toNat)
  case atStart => exact ⟨0, Nat.zero_le _, rfl, ⟨Below.refl _ _, fun q _ hq => by omega⟩⟩
  case round =>
    obtain ⟨k, hk, rfl, HI⟩ := hrel
    by_cases hlt : k < L.length
    · obtain ⟨g, rfl, hg, hr⟩ := HW.out.below HI.out.1 (show 0 < L.length by omega)
      have hrk := hr k hlt
      have hS2 : wr.cell? ⟨S, 0, none⟩ = some (.int .u64 b) := (HI.out.1.cell (p := ⟨S, 0, none⟩) (World.block_lt_of_cell? w _ HS.out)).trans HS.out
      have HD : Box (Calls Try.prog 31 #[.agg (kc L[k]).toArray, .pointer (some ⟨S, 0, none⟩)] wr fun e w' => e = .returned (.bool (decide (L[k].b = b))) ∧ Below wr.heap.size wr w') := ⟨is_any wr L[k] b S hS2⟩
      have Hr : Box (wr.rangeAt g (k * 3) (kc L[k])) := ⟨hrk⟩
      obtain ⟨x, hx⟩ : ∃ x, L[k] = x := ⟨_, rfl⟩
      rw [hx] at HD Hr
      have Hx : Box (L[k] = x) := ⟨hx⟩
      have Hi : Box ((Try.prog.info? 60).map (·.size) = some (kc x).length) := ⟨sizeK⟩
      clear hr hrk hS2 hx
      by_cases hp : x.b = b
      · rw [show decide (x.b = b) = true by simpa using hp] at HD
        go_wp2_with (first
          | (refine atLoad _ ?_; refine wpList_load_mid rfl 60 _ rfl g (k * 3) rfl (kc x) _ Hr.out Try.underlying60 rfl Hi.out ?_)
          | (go_at_call 31; refine HD.out.mono ?_; rintro e w3 ⟨rfl, hb3⟩; have B3 : Box _ := ⟨hb3⟩; clear hb3))
        go_ret
        exact ⟨HI.out.1.trans (B3.out.mono HI.out.1.size), .inr ⟨k, rfl, hlt, by rw [Hx.out]; exact hp, fun q hq hqk => HI.out.2 q hq hqk⟩⟩
      · rw [show decide (x.b = b) = false by simpa using hp] at HD
        go_wp2_with (first
          | (refine atLoad _ ?_; refine wpList_load_mid rfl 60 _ rfl g (k * 3) rfl (kc x) _ Hr.out Try.underlying60 rfl Hi.out ?_)
          | (go_at_call 31; refine HD.out.mono ?_; rintro e w3 ⟨rfl, hb3⟩; have B3 : Box _ := ⟨hb3⟩; clear hb3))
        exact ⟨⟨k + 1, by omega, by simp, ⟨HI.out.1.trans (B3.out.mono HI.out.1.size), fun q hq hqk => by
          by_cases e : q = k
          · subst e; rw [Hx.out]; exact hp
          · exact HI.out.2 q hq (by omega)⟩⟩, by simp [intOf]; omega⟩
    · obtain rfl : k = L.length := by omega
      go_wp2
      go_ret
      exact ⟨HI.out.1, .inl ⟨rfl, fun x hx => by
        obtain ⟨j, hj, rfl⟩ := List.getElem_of_mem hx
        exact HI.out.2 j hj hj⟩⟩
set_option maxHeartbeats 1000000 in
theorem find_any (w : World) (B C : Nat) (n : Int) (rv : Value) (L : List Kp) (h : Ca w B C n rv L) (b : Int) :
    Calls Try.prog 22 #[.pointer (some ⟨C, 0, none⟩), .int .u64 b] w fun e w' => Below w.heap.size w w' ∧ ((e = .returned (.int .i64 (-1)) ∧ No L b) ∨ ∃ k : Nat, e = .returned (.int .i64 (k : Int)) ∧ Fs L b k) := by
  obtain ⟨a, cap, rfl, _, _⟩ := h.row.form
  have hb1 : Below w.heap.size w (w.alloc (.cells #[.int .u64 b] 29)) := (Below.refl _ _).alloc (Nat.le_refl _) _
  obtain ⟨-, c1, -⟩ := (h.below hb1).cells
  have HI : Box _ := ⟨index_any (w.alloc (.cells #[.int .u64 b] 29)) a cap w.heap.size b L (h.row.ways.below hb1) h.len (by rw [cell_of_row _ _ _ _ _ _ (al_at rfl)]; rfl)⟩
  have HB : Box _ := ⟨hb1⟩
  clear h hb1
  go_enter Try.func22, Try.ntmps22
  go_wp2_with (go_at_call 30; refine HI.out.mono ?_; rintro e w3 ⟨hb3, h3⟩; have B3 : Box _ := ⟨hb3⟩; clear hb3; rcases h3 with ⟨rfl, hno⟩ | ⟨k, rfl, hfs⟩)
  · go_ret
    exact ⟨below_to HB.out B3.out, .inl ⟨rfl, hno⟩⟩
  · go_ret
    exact ⟨below_to HB.out B3.out, .inr ⟨k, rfl, hfs⟩⟩
set_option maxHeartbeats 1000000 in
theorem find_none (w : World) (b : Int) :
    Calls Try.prog 22 #[.pointer none, .int .u64 b] w fun e w' => e = .returned (.int .i64 (-1)) ∧ Below w.heap.size w w' := by
  go_enter Try.func22, Try.ntmps22
  go_wp2
  go_ret
  exact ⟨rfl, (Below.refl _ _).alloc (Nat.le_refl _) _⟩
theorem find_no (w : World) (B C : Nat) (n : Int) (rv : Value) (L : List Kp) (h : Ca w B C n rv L) (b : Int) (hn : No L b) :
    Calls Try.prog 22 #[.pointer (some ⟨C, 0, none⟩), .int .u64 b] w fun e w' => e = .returned (.int .i64 (-1)) ∧ Below w.heap.size w w' := by
  refine (find_any w B C n rv L h b).mono ?_
  rintro e w' ⟨hb, ⟨rfl, _⟩ | ⟨k, rfl, hk⟩⟩
  · exact ⟨rfl, hb⟩
  · exact (hn.not hk).elim
theorem find_ok (w : World) (B C : Nat) (n : Int) (rv : Value) (L : List Kp) (h : Ca w B C n rv L) (b : Int) (i : Nat) (hi : Fs L b i) :
    Calls Try.prog 22 #[.pointer (some ⟨C, 0, none⟩), .int .u64 b] w fun e w' => e = .returned (.int .i64 (i : Int)) ∧ Below w.heap.size w w' := by
  refine (find_any w B C n rv L h b).mono ?_
  rintro e w' ⟨hb, ⟨rfl, hn⟩ | ⟨k, rfl, hk⟩⟩
  · exact (hn.not hi).elim
  · exact ⟨by rw [hk.only hi], hb⟩
set_option maxHeartbeats 1000000 in
theorem clear_any (w : World) (B C : Nat) (n : Int) (L : List Kp) (h : Cc w B C n L) :
    Calls Try.prog 20 #[.pointer (some ⟨C, 0, none⟩)] w fun e w' => e = .returned (.tuple #[]) ∧ Cc w' B C n [] ∧ Fr B w w' := by
  obtain ⟨⟨rv, h1⟩, h2⟩ := h
  obtain ⟨-, c1, fz⟩ := h1.cells
  have f1 := fz 1
  have H : Box (Cc (w.setCell ⟨C, 1, none⟩ (.slice none 0 0)) B C n [] ∧ Fr B w (w.setCell ⟨C, 1, none⟩ (.slice none 0 0))) := ⟨⟨⟨_, h1.turn rfl (World.ownsRow_nil _ _ _ _) (fun x hx => by simp at hx) (fun k hk => by simp [Value.ownBlock] at hk) (by simp)⟩, fun x hx => by simp at hx⟩, fr_set (Fr.refl _ _) h1.hC h1.ck _⟩
  clear h1 h2 fz
  go_enter Try.func20, Try.ntmps20
  go_wp2
  go_end0
  exact ⟨rfl, H.out⟩
theorem clear_none (w : World) : Calls Try.prog 20 #[.pointer none] w fun e w' => e = .returned (.tuple #[]) ∧ w = w' := by
  go_enter Try.func20, Try.ntmps20
  go_wp2
  go_end0
  exact ⟨rfl, rfl⟩
end Go.Proofs.Ythjfobcfdpogeaa
