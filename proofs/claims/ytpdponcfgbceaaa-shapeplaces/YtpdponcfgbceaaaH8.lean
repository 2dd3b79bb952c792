/-
  What the reference's New answers, for every number of leaves.
-/
import Derived.Test.YtpdponcfgbceaaaH7
namespace Go.Proofs.Ytpdponcfgbceaaa
set_option linter.unusedVariables false
open Go.RowKit Plain

set_option maxHeartbeats 1000000 in
theorem rnew_no (leaves : Int) (w : World) (h : leaves < 1 ∨ 1024 < leaves) :
    Calls Try.prog 10 #[.int .i64 leaves] w fun e w' => e = .returned (.tuple #[.slice none 0 0, .int .i64 1]) ∧ w = w' := by
  by_cases h1 : leaves < 1
  · clear h
    go_enter Try.func10, Try.ntmps10
    go_wp2
    go_ret2
    exact ⟨rfl, rfl⟩
  · have h2 : 1024 < leaves := by omega
    clear h
    go_enter Try.func10, Try.ntmps10
    go_wp2
    go_ret2
    exact ⟨rfl, rfl⟩

def slen : Value → Nat
  | .slice _ n _ => n
  | _ => 0
/-- Where the reference's New stands: at the leaves, or above them. -/
def RGrows (w0 wr : World) (m k c : Nat) (v : Value) : Prop :=
  ∃ A : List Int, A.length = c ∧ wr.ownsRow w0.heap.size 3 1 v c (A.map (Value.int .i64)) ∧ Below w0.heap.size w0 wr ∧ ((c = 1 ∧ k = m ∧ A = [(m : Int)]) ∨ (2 ≤ c ∧ ∃ f, A ++ ups f k = wid m ∧ k ≤ 4 ^ f))
theorem RGrows.start (w0 : World) (m : Nat) : RGrows w0 (w0.alloc (.cells #[.int .i64 m] 3)) m m 1 (.slice (some ⟨w0.heap.size, 0, none⟩) 1 1) :=
  ⟨[(m : Int)], rfl, iown_new (X := [(m : Int)]) rfl (by simp [maxLen]) _ (Nat.le_refl _), box_below _ _, .inl ⟨rfl, rfl, rfl⟩⟩
theorem RGrows.pos {w0 wr : World} {m k c : Nat} {v : Value} (h : RGrows w0 wr m k c v) : 1 ≤ c := by
  obtain ⟨A, _, _, _, h | h⟩ := h <;> omega
/-- One level more, where there is one. -/
theorem RGrows.next {w0 wr : World} {m k c : Nat} {v : Value} (h : RGrows w0 wr m k c v) (h1 : 1 ≤ m) (h2 : m ≤ 1024) (hk : 1 < k ∨ c = 1) :
    ∃ A : List Int, A.length = c ∧ wr.ownsRow w0.heap.size 3 1 v c (A.map (Value.int .i64)) ∧ Below w0.heap.size w0 wr ∧ c + 1 ≤ 6 ∧ ∃ f, (A ++ [((up k : Nat) : Int)]) ++ ups f (up k) = wid m ∧ up k ≤ 4 ^ f := by
  obtain ⟨A, e, o1, o2, h⟩ := h
  have key : ∃ f, (A ++ [((up k : Nat) : Int)]) ++ ups f (up k) = wid m ∧ up k ≤ 4 ^ f := by
    rcases h with ⟨hc, rfl, rfl⟩ | ⟨hc, f, hA, hf⟩
    · exact ⟨4, rfl, by unfold up; omega⟩
    · obtain ⟨g, e, hg⟩ := ups_step f k (by omega) hf
      refine ⟨g, ?_, hg⟩
      rw [← hA, e, List.append_assoc]
      rfl
  refine ⟨A, e, o1, o2, ?_, key⟩
  obtain ⟨f, hf, _⟩ := key
  have := (shp_wid m h1 h2).hi
  rw [← hf, List.length_append, List.length_append, e] at this
  simp at this
  omega
theorem RGrows.finish {w0 wr : World} {m k c : Nat} {v : Value} (h : RGrows w0 wr m k c v) (hk : k ≤ 1) (hc : c ≠ 1) : ∃ a cap, v = .slice a c cap ∧ Box (c = (wid m).length) ∧ Box (Ints wr a c (wid m) ∧ c ≤ cap ∧ Below w0.heap.size w0 wr) := by
  obtain ⟨A, e, o1, o2, h⟩ := h
  rcases h with ⟨h, _⟩ | ⟨_, f, hA, _⟩
  · omega
  · rw [ups_end f k hk, List.append_nil] at hA
    subst hA
    obtain ⟨a, cap, rfl⟩ := iown_form o1
    exact ⟨a, cap, rfl, ⟨e.symm⟩, ⟨iown_ints o1, (iown_cap o1).1, o2⟩⟩

set_option maxHeartbeats 2000000 in
theorem rnew_ok (m : Nat) (w : World) (h1 : 1 ≤ m) (h2 : m ≤ 1024) :
    Calls Try.prog 10 #[.int .i64 m] w fun e w' => ∃ a cap, e = .returned (.tuple #[.slice a (wid m).length cap, .int .i64 0]) ∧ Ints w' a (wid m).length (wid m) ∧ (wid m).length ≤ cap ∧ Below w.heap.size w w' := by
  have g1 : ¬ (m : Int) < 1 := by omega
  have g2 : ¬ 1024 < (m : Int) := by omega
  have H0 : Box (RGrows w (w.alloc (.cells #[.int .i64 m] 3)) m m 1 (.slice (some ⟨w.heap.size, 0, none⟩) 1 1)) := ⟨RGrows.start w m⟩
  go_enter Try.func10, Try.ntmps10
  go_wp2
  go_loopw [4, 5] (fun v u wr => ∃ (k c : Nat) (a : Option Addr) (cap : Nat), k ≤ 1024 ∧ c ≤ 6 ∧ u = .int .i64 k ∧ v = .slice a c cap ∧ Box (RGrows w wr m k c (.slice a c cap))) (fun v _ _ => 7 - slen v)
  case atStart => exact ⟨m, 1, _, _, h2, by omega, rfl, rfl, H0⟩
  case round =>
    obtain ⟨k, c, a, cap, hk, hc6, rfl, rfl, HG⟩ := hrel
    clear H0
    have hc1 := HG.out.pos
    by_cases hk1 : 1 < k
    · have g3 : (1 : Int) < (k : Int) := by omega
      obtain ⟨A, e, o1, o2, hc5, f, o3, o4⟩ := HG.out.next h1 h2 (by omega)
      have HO : Box (wr.ownsRow w.heap.size 3 1 (.slice a c cap) c (A.map (Value.int .i64)) ∧ Below w.heap.size w wr ∧ ∀ (x : World) (v : Value), x.ownsRow w.heap.size 3 1 v (c + 1) ((A ++ [((up k : Nat) : Int)]).map (Value.int .i64)) → Below w.heap.size w x → RGrows w x m (up k) (c + 1) v) := ⟨o1, o2, fun x v hx hb => ⟨_, by simp [e], hx, hb, .inr ⟨by omega, f, o3, o4⟩⟩⟩
      clear e o1 o2 o3 o4
      have hu : up k ≤ 1024 := by unfold up; omega
      go_wp2
      go_loop [6] (fun u => ∃ j : Nat, j ≤ up k ∧ u = .int .i64 j) (fun u => up k - (intOf u).toNat)
      case atStart => exact ⟨0, Nat.zero_le _, rfl⟩
      case round =>
        obtain ⟨j, hj, rfl⟩ := hrel
        by_cases hlt : 4 * j < k
        · have g5 : 4 * (j : Int) < (k : Int) := by omega
          have hj2 : j + 1 ≤ up k := by unfold up; omega
          go_wp2
          go_round
          case rel => exact ⟨j + 1, hj2, by go_num⟩
          case measure => simp [intOf]; omega
        · have g5 : ¬ 4 * (j : Int) < (k : Int) := by omega
          obtain rfl : j = up k := by unfold up at hj ⊢; omega
          generalize up k = z at HO hu g5
          go_wp2_with (at_builtin; refine wpList_iapp rfl (.tmp 30) (.tmp 32) rfl w.heap.size c 1 1 _ A [(z : Int)] ⟨wr.heap.size, 0, none⟩ w rfl rfl (iown_later HO.out.1 (box_below _ _)) (ints_of_row (X := [(z : Int)]) (al_at rfl)) (by omega) (HO.out.2.1.alloc HO.out.2.1.size _) (Nat.le_trans HO.out.2.1.size (by simp)) ?_; intro v' w' H3; obtain ⟨a2, cap2, rfl⟩ := iown_form H3.out.1; have H4 : Box (RGrows w w' m z (c + 1) (.slice a2 (c + 1) cap2)) := ⟨HO.out.2.2 w' _ H3.out.1 H3.out.2.1⟩; clear H3)
          go_roundw
          case rel => exact ⟨z, c + 1, a2, cap2, hu, hc5, rfl, rfl, H4⟩
          case measure => simp [slen]; omega
    · have g3 : ¬ (1 : Int) < (k : Int) := by omega
      by_cases hc2 : c = 1
      · have g4 : ((c : Int) == 1) = true := by simp; omega
        have HC : Box (c = 1) := ⟨hc2⟩
        clear hc2 hc1
        obtain ⟨A, e, o1, o2, hc5, f, o3, o4⟩ := HG.out.next h1 h2 (.inr HC.out)
        have HO : Box (wr.ownsRow w.heap.size 3 1 (.slice a c cap) c (A.map (Value.int .i64)) ∧ Below w.heap.size w wr ∧ ∀ (x : World) (v : Value), x.ownsRow w.heap.size 3 1 v (c + 1) ((A ++ [((up k : Nat) : Int)]).map (Value.int .i64)) → Below w.heap.size w x → RGrows w x m (up k) (c + 1) v) := ⟨o1, o2, fun x v hx hb => ⟨_, by simp [e], hx, hb, .inr ⟨by have := HC.out; omega, f, o3, o4⟩⟩⟩
        clear e o1 o2 o3 o4
        have hu : up k ≤ 1024 := by unfold up; omega
        go_wp2
        go_loop [6] (fun u => ∃ j : Nat, j ≤ up k ∧ u = .int .i64 j) (fun u => up k - (intOf u).toNat)
        case atStart => exact ⟨0, Nat.zero_le _, rfl⟩
        case round =>
          obtain ⟨j, hj, rfl⟩ := hrel
          by_cases hlt : 4 * j < k
          · have g5 : 4 * (j : Int) < (k : Int) := by omega
            have hj2 : j + 1 ≤ up k := by unfold up; omega
            go_wp2
            go_round
            case rel => exact ⟨j + 1, hj2, by go_num⟩
            case measure => simp [intOf]; omega
          · have g5 : ¬ 4 * (j : Int) < (k : Int) := by omega
            obtain rfl : j = up k := by unfold up at hj ⊢; omega
            generalize up k = z at HO hu g5
            go_wp2_with (at_builtin; refine wpList_iapp rfl (.tmp 30) (.tmp 32) rfl w.heap.size c 1 1 _ A [(z : Int)] ⟨wr.heap.size, 0, none⟩ w rfl rfl (iown_later HO.out.1 (box_below _ _)) (ints_of_row (X := [(z : Int)]) (al_at rfl)) (by omega) (HO.out.2.1.alloc HO.out.2.1.size _) (Nat.le_trans HO.out.2.1.size (by simp)) ?_; intro v' w' H3; obtain ⟨a2, cap2, rfl⟩ := iown_form H3.out.1; have H4 : Box (RGrows w w' m z (c + 1) (.slice a2 (c + 1) cap2)) := ⟨HO.out.2.2 w' _ H3.out.1 H3.out.2.1⟩; clear H3)
            go_roundw
            case rel => exact ⟨z, c + 1, a2, cap2, hu, hc5, rfl, rfl, H4⟩
            case measure => simp [slen]; omega
      · have g4 : ((c : Int) == 1) = false := by simp; omega
        obtain ⟨a2, cap2, e2, HN, HF⟩ := HG.out.finish (by omega) hc2
        cases e2
        go_wp2
        go_ret2
        have hn := HN.out
        subst hn
        exact ⟨a, cap, rfl, HF.out⟩
end Go.Proofs.Ytpdponcfgbceaaa
