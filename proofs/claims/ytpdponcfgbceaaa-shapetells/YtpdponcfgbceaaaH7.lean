/-
  What the reference's Level, Place and Path answer, for every shape that may be.
-/
import Derived.Test.YtpdponcfgbceaaaH6
namespace Go.Proofs.Ytpdponcfgbceaaa
set_option linter.unusedVariables false
open Go.RowKit Plain

/-- Of two levels that an item stands on, the one is the other. -/
theorem level_one {L : List Int} (h : Shp L) {k l : Nat} {x : Int} (h1 : sumTo L k ≤ x) (h2 : x < sumTo L (k + 1)) (h3 : sumTo L l ≤ x) (h4 : x < sumTo L (l + 1)) : k = l := by
  by_cases e : k < l
  · have := h.mono (k + 1) l e
    omega
  · by_cases e2 : l < k
    · have := h.mono (l + 1) k e2
      omega
    · omega

set_option maxHeartbeats 2000000 in
theorem rlevel_ok (a : Option Addr) (n cap l : Nat) (item : Int) (L : List Int) (w : World) (hI : Ints w a n L) (hS : Shp L) (hl : l < n) (h1 : sumTo L l ≤ item) (h2 : item < sumTo L (l + 1)) :
    Calls Try.prog 15 #[.slice a n cap, .int .i64 item] w fun e w' => e = .returned (.tuple #[.int .i64 l, .int .i64 (item - sumTo L l), .int .i64 0]) ∧ w = w' := by
  have hn : n ≤ 6 := by rw [← hI.1]; exact hS.hi
  obtain ⟨b1, o1, e1, _, c1⟩ := hI.2 (by omega)
  subst e1
  have HI : Box (Ints w (some ⟨b1, o1, none⟩) n L) := ⟨hI⟩
  have HS : Box (Shp L) := ⟨hS⟩
  have HE : Box (sumTo L l ≤ item ∧ item < sumTo L (l + 1)) := ⟨h1, h2⟩
  clear hI hS c1 h1 h2
  go_enter Try.func15, Try.ntmps15
  go_wp2
  go_loop [7, 8] (fun s t => ∃ k : Nat, k ≤ l ∧ t = .int .i64 k ∧ s = .int .i64 (sumTo L k) ∧ Box (sumTo L k ≤ item)) (fun _ t => l - (intOf t).toNat)
  case atStart => exact ⟨0, Nat.zero_le _, rfl, rfl, ⟨Int.le_trans (HS.out.mono 0 l (Nat.zero_le _)) HE.out.1⟩⟩
  case round =>
    obtain ⟨k, hk, rfl, rfl, HK⟩ := hrel
    have hlt : k < n := by omega
    have d1 := HI.out.cell k hlt
    obtain ⟨z, hz⟩ : ∃ z : Nat, L.getD k 0 = (z : Int) := ⟨(L.getD k 0).toNat, by have := HS.out.any k; omega⟩
    have hzb : z ≤ 1024 := by have := HS.out.any k; omega
    have hs0 := HS.out.sum k
    have HN : Box (sumTo L k + (z : Int) = sumTo L (k + 1)) := ⟨by rw [sumTo, hz]⟩
    have HO : Box (∀ x : Int, sumTo L k ≤ x → x < sumTo L (k + 1) → x = item → k = l) := ⟨fun x hx1 hx2 e => by subst e; exact level_one HS.out hx1 hx2 HE.out.1 HE.out.2⟩
    have HF : Box (sumTo L (k + 1) ≤ item → k + 1 ≤ l) := ⟨fun h => by
      by_cases e : k = l
      · subst e; have := HE.out.2; omega
      · omega⟩
    rw [hz] at d1
    clear hz
    generalize hsk : sumTo L k = s at HN HO HK hs0
    have HSk : Box (sumTo L k = s) := ⟨hsk⟩
    clear hsk
    go_wp2
    go_loop [7, 9] (fun c i => ∃ j : Nat, j ≤ z ∧ i = .int .i64 j ∧ c = .int .i64 (s + (j : Int)) ∧ Box (s + (j : Int) ≤ item)) (fun _ i => z - (intOf i).toNat)
    case atStart => exact ⟨0, Nat.zero_le _, rfl, by simp, ⟨by have := HK.out; omega⟩⟩
    case round =>
      obtain ⟨j, hj, rfl, rfl, HJ⟩ := hrel
      by_cases hjz : j < z
      · by_cases hE : s + (j : Int) = item
        · have hkl := HO.out (s + (j : Int)) (by omega) (by rw [← HN.out]; omega) hE
          have HA : Box (item - sumTo L l = (j : Int)) := ⟨by rw [← hkl, HSk.out]; omega⟩
          have HL : Box (k = l) := ⟨hkl⟩
          have g1 : ((s + (j : Int)) == item) = true := by simpa using hE
          clear hkl hE
          go_wp2
          go_ret3
          exact ⟨by rw [HA.out, ← HL.out]; rfl, rfl⟩
        · have g1 : ((s + (j : Int)) == item) = false := by simpa using hE
          have HJ2 : Box (s + ((j + 1 : Nat) : Int) ≤ item) := ⟨by have := HJ.out; omega⟩
          go_wp2
          go_round
          case rel => exact ⟨j + 1, by omega, by go_num, by go_num, HJ2⟩
          case measure => simp [intOf]; omega
      · obtain rfl : j = z := by omega
        have HJ2 : Box (sumTo L (k + 1) ≤ item) := ⟨by rw [← HN.out]; exact HJ.out⟩
        have hk1 := HF.out HJ2.out
        go_wp2
        go_round
        case rel => exact ⟨k + 1, hk1, by go_num, by rw [HN.out], HJ2⟩
        case measure => simp [intOf]; omega

set_option maxHeartbeats 2000000 in
theorem rlevel_no (a : Option Addr) (n cap : Nat) (item : Int) (L : List Int) (w : World) (hI : Ints w a n L) (hS : Shp L) (h : item < 0 ∨ sumTo L n ≤ item) :
    Calls Try.prog 15 #[.slice a n cap, .int .i64 item] w fun e w' => e = .returned (.tuple #[.int .i64 0, .int .i64 0, .int .i64 12]) ∧ w = w' := by
  have hn : n ≤ 6 := by rw [← hI.1]; exact hS.hi
  have hn2 : 2 ≤ n := by rw [← hI.1]; exact hS.lo
  obtain ⟨b1, o1, e1, _, c1⟩ := hI.2 (by omega)
  subst e1
  have HI : Box (Ints w (some ⟨b1, o1, none⟩) n L) := ⟨hI⟩
  have HS : Box (Shp L) := ⟨hS⟩
  have HE : Box (item < 0 ∨ sumTo L n ≤ item) := ⟨h⟩
  clear hI hS c1 h
  go_enter Try.func15, Try.ntmps15
  go_wp2
  go_loop [7, 8] (fun s t => ∃ k : Nat, k ≤ n ∧ t = .int .i64 k ∧ s = .int .i64 (sumTo L k)) (fun _ t => n - (intOf t).toNat)
  case atStart => exact ⟨0, Nat.zero_le _, rfl, rfl⟩
  case round =>
    obtain ⟨k, hk, rfl, rfl⟩ := hrel
    by_cases hlt : k < n
    · have d1 := HI.out.cell k hlt
      obtain ⟨z, hz⟩ : ∃ z : Nat, L.getD k 0 = (z : Int) := ⟨(L.getD k 0).toNat, by have := HS.out.any k; omega⟩
      have hzb : z ≤ 1024 := by have := HS.out.any k; omega
      have hs0 := HS.out.sum k
      have HN : Box (sumTo L k + (z : Int) = sumTo L (k + 1)) := ⟨by rw [sumTo, hz]⟩
      have HO : Box (∀ x : Int, 0 ≤ x → x < sumTo L (k + 1) → x ≠ item) := ⟨fun x hx1 hx2 e => by
        subst e
        have := HS.out.mono (k + 1) n hlt
        have := HE.out
        omega⟩
      rw [hz] at d1
      clear hz
      generalize sumTo L k = s at HN hs0
      go_wp2
      go_loop [7, 9] (fun c i => ∃ j : Nat, j ≤ z ∧ i = .int .i64 j ∧ c = .int .i64 (s + (j : Int))) (fun _ i => z - (intOf i).toNat)
      case atStart => exact ⟨0, Nat.zero_le _, rfl, by simp⟩
      case round =>
        obtain ⟨j, hj, rfl, rfl⟩ := hrel
        by_cases hjz : j < z
        · have hE := HO.out (s + (j : Int)) (by omega) (by rw [← HN.out]; omega)
          have g1 : ((s + (j : Int)) == item) = false := by simpa using hE
          clear hE
          go_wp2
          go_round
          case rel => exact ⟨j + 1, by omega, by go_num, by go_num⟩
          case measure => simp [intOf]; omega
        · obtain rfl : j = z := by omega
          go_wp2
          go_round
          case rel => exact ⟨k + 1, by omega, by go_num, by rw [HN.out]⟩
          case measure => simp [intOf]; omega
    · obtain rfl : k = n := by omega
      go_wp2
      go_ret3
      exact ⟨rfl, rfl⟩
theorem rlevel_any (a : Option Addr) (n cap : Nat) (item x y z : Int) (L : List Int) (w : World) (hI : Ints w a n L) (hS : Shp L) (h : Lvl L n item x y z) :
    Calls Try.prog 15 #[.slice a n cap, .int .i64 item] w fun e w' => e = .returned (.tuple #[.int .i64 x, .int .i64 y, .int .i64 z]) ∧ w = w' := by
  rcases h with ⟨l, hl, h1, h2, rfl, rfl, rfl⟩ | ⟨h, rfl, rfl, rfl⟩
  · exact rlevel_ok a n cap l item L w hI hS hl h1 h2
  · exact rlevel_no a n cap item L w hI hS h

/-- An item's level says whether there is such an item. -/
theorem lvl_plc {L : List Int} (hS : Shp L) {n : Nat} {item x y z : Int} (h : Lvl L n item x y z) : (z = 0 ∧ 0 ≤ item ∧ item < sumTo L n) ∨ (z = 12 ∧ (item < 0 ∨ sumTo L n ≤ item)) := by
  rcases h with ⟨l, hl, h1, h2, _, _, rfl⟩ | ⟨h, _, _, rfl⟩
  · have h3 := hS.mono (l + 1) n hl
    have h4 := hS.sum l
    exact .inl ⟨rfl, by omega, by omega⟩
  · exact .inr ⟨rfl, h⟩

set_option maxHeartbeats 1000000 in
theorem rplace_any (a : Option Addr) (n cap : Nat) (item side x y : Int) (L : List Int) (w : World) (hI : Ints w a n L) (hS : Shp L) (h : Plc L n item side x y) :
    Calls Try.prog 17 #[.slice a n cap, .int .i64 item, .int .i64 side] w fun e w' => e = .returned (.tuple #[.int .i64 x, .int .i64 y]) ∧ w = w' := by
  obtain ⟨p, q, r, hv⟩ := lvl_any L n item
  have HC : Box (Calls Try.prog 15 #[.slice a n cap, .int .i64 item] w fun e w' => e = .returned (.tuple #[.int .i64 p, .int .i64 q, .int .i64 r]) ∧ w = w') := ⟨rlevel_any a n cap item p q r L w hI hS hv⟩
  have h1 := lvl_plc hS hv
  have h3 := hS.sum n
  have hn : n ≤ 6 := by rw [← hI.1]; exact hS.hi
  unfold Plc at h
  clear hv hI hS
  generalize sumTo L n = s at h1 h3 h
  rcases h1 with ⟨rfl, h1⟩ | ⟨rfl, h1⟩
  · by_cases h4 : side < 0
    · obtain ⟨rfl, rfl⟩ : x = 0 ∧ y = 12 := by omega
      clear h h1
      go_enter Try.func17, Try.ntmps17
      go_wp2_with (go_at_call 15; refine Calls.mono HC.out ?_; rintro e w' ⟨rfl, rfl⟩)
      go_ret2
      exact ⟨rfl, rfl⟩
    by_cases h5 : 1 < side
    · obtain ⟨rfl, rfl⟩ : x = 0 ∧ y = 12 := by omega
      clear h h1
      go_enter Try.func17, Try.ntmps17
      go_wp2_with (go_at_call 15; refine Calls.mono HC.out ?_; rintro e w' ⟨rfl, rfl⟩)
      go_ret2
      exact ⟨rfl, rfl⟩
    obtain ⟨rfl, rfl⟩ : x = 2 * item + side ∧ y = 0 := by omega
    clear h
    go_enter Try.func17, Try.ntmps17
    go_wp2_with (go_at_call 15; refine Calls.mono HC.out ?_; rintro e w' ⟨rfl, rfl⟩)
    go_ret2
    exact ⟨rfl, rfl⟩
  · obtain ⟨rfl, rfl⟩ : x = 0 ∧ y = 12 := by omega
    clear h h1
    go_enter Try.func17, Try.ntmps17
    go_wp2_with (go_at_call 15; refine Calls.mono HC.out ?_; rintro e w' ⟨rfl, rfl⟩)
    go_ret2
    exact ⟨rfl, rfl⟩

set_option maxHeartbeats 1000000 in
theorem rpath_no (a : Option Addr) (n cap : Nat) (leaf : Int) (L : List Int) (w : World) (hI : Ints w a n L) (hS : Shp L) (h : leaf < 0 ∨ L.getD 0 0 ≤ leaf) :
    Calls Try.prog 19 #[.slice a n cap, .int .i64 leaf] w fun e w' => e = .returned (.tuple #[.slice none 0 0, .int .i64 12]) ∧ Below w.heap.size w w' := by
  have hn : 2 ≤ n := by rw [← hI.1]; exact hS.lo
  have hn6 : n ≤ 6 := by rw [← hI.1]; exact hS.hi
  have g0 : ((n : Int) == 0) = false := by simp; omega
  by_cases h0 : leaf < 0
  · clear h hI hS
    go_enter Try.func19, Try.ntmps19
    go_wp2
    go_ret2
    exact ⟨rfl, Below.refl _ _⟩
  · have hz : L.getD 0 0 ≤ leaf := by omega
    obtain ⟨b1, o1, e1, _, c1⟩ := hI.2 (by omega)
    subst e1
    have d1 := c1 0 (by omega)
    rw [Nat.add_zero] at d1
    clear h hI hS c1
    generalize L.getD 0 0 = z at d1 hz
    go_enter Try.func19, Try.ntmps19
    go_wp2
    go_ret2
    exact ⟨rfl, Below.refl _ _⟩

set_option maxHeartbeats 2000000 in
theorem rpath_ok (a : Option Addr) (n cap q : Nat) (L : List Int) (w : World) (hI : Ints w a n L) (hS : Shp L) (hq : (q : Int) < L.getD 0 0) :
    Calls Try.prog 19 #[.slice a n cap, .int .i64 q] w fun e w' => ∃ a' cap', e = .returned (.tuple #[.slice a' n cap', .int .i64 0]) ∧ Ints w' a' n (pth L q n) ∧ Below w.heap.size w w' := by
  have hn : 2 ≤ n := by rw [← hI.1]; exact hS.lo
  have hn6 : n ≤ 6 := by rw [← hI.1]; exact hS.hi
  have g0 : ((n : Int) == 0) = false := by simp; omega
  have hq2 : (q : Int) ≤ 1024 := by have := hS.any 0; omega
  have HS : Box (Shp L) := ⟨hS⟩
  have HQ : Box (∀ k, k < n → ((q / 4 ^ k : Nat) : Int) ≤ 1024) := ⟨fun k hk => by
    have h1 := hS.quart_lt q hq k (by rw [hI.1]; exact hk)
    have h2 := hS.any k
    omega⟩
  obtain ⟨b1, o1, e1, _, c1⟩ := hI.2 (by omega)
  subst e1
  have HI : Box (Ints w (some ⟨b1, o1, none⟩) n L) := ⟨hI⟩
  have d1 := c1 0 (by omega)
  rw [Nat.add_zero] at d1
  clear hI hS c1
  generalize L.getD 0 0 = z at d1 hq
  have H2 : Box (Walks w w L q 0 (.slice none 0 0)) := ⟨World.ownsRow_nil _ _ _ _, Below.refl _ _⟩
  go_enter Try.func19, Try.ntmps19
  go_wp2
  clear d1
  go_loopw [6, 7, 8, 9] (fun v f i t wr => ∃ k : Nat, k ≤ n ∧ t = .int .i64 k ∧ f = .int .i64 (sumTo L k) ∧ i = .int .i64 ((q / 4 ^ k : Nat) : Int) ∧ Box (Walks w wr L q k v)) (fun _ _ _ t _ => n - (intOf t).toNat)
  case atStart => exact ⟨0, Nat.zero_le _, rfl, rfl, by simp, H2⟩
  case round =>
    obtain ⟨k, hk, rfl, rfl, rfl, HW⟩ := hrel
    clear H2
    by_cases hlt : k < n
    · have hb := HS.out.any k
      have hs0 := HS.out.sum k
      have hq0 := HQ.out k hlt
      have hs : Box (sumTo L k + L.getD k 0 = sumTo L (k + 1)) := ⟨rfl⟩
      have ht := quart_tdiv (q / 4 ^ k)
      rw [← quart] at ht
      have hq3 : q / 4 ^ (k + 1) ≤ 1024 := by rw [quart]; omega
      have hp : Box (pth L q k ++ [sumTo L k + ((q / 4 ^ k : Nat) : Int)] = pth L q (k + 1)) := ⟨rfl⟩
      have HD : Box (∀ x, Below w.heap.size w x → x.cell? ⟨b1, o1 + k, none⟩ = some (.int .i64 (L.getD k 0))) := ⟨fun x hx => (HI.out.below hx).cell k hlt⟩
      generalize sumTo L k = s at hs hs0 hp
      generalize L.getD k 0 = z at HD hs hb
      generalize q / 4 ^ k = p at hq0 ht hp
      generalize hp1 : q / 4 ^ (k + 1) = p1 at ht hq3
      have HP : Box (q / 4 ^ (k + 1) = p1) := ⟨hp1⟩
      clear hp1
      go_wp2_with (at_builtin; refine wpList_iapp rfl (.tmp 31) (.tmp 35) rfl w.heap.size k 1 1 _ (pth L q k) [s + (p : Int)] ⟨wr.heap.size, 0, none⟩ w rfl rfl (iown_later HW.out.1 (box_below _ _)) (ints_of_row (X := [s + (p : Int)]) (al_at rfl)) (by omega) (HW.out.2.alloc HW.out.2.size _) (Nat.le_trans HW.out.2.size (by simp)) ?_; intro v' w' H3; rw [hp.out] at H3; have H4 : Box (Walks w w' L q (k + 1) v') := ⟨H3.out.1, H3.out.2.1⟩; have d1 := HD.out w' H3.out.2.1; clear H3)
      go_roundw
      case rel => exact ⟨k + 1, by omega, by go_num, by rw [hs.out], by rw [HP.out], H4⟩
      case measure => simp [intOf]; omega
    · obtain rfl : k = n := by omega
      obtain ⟨a', cap', rfl⟩ := iown_form HW.out.1
      go_wp2
      go_ret2
      exact ⟨a', cap', rfl, iown_ints HW.out.1, HW.out.2⟩
end Go.Proofs.Ytpdponcfgbceaaa
