/-
  The walk of InodeApart: what the roads of two places say of the places.
-/
import Derived.Test.YtpdggopkalbbeaaNG
namespace Go.Proofs.Ytpdggopkalbbeaa
set_option linter.unusedVariables false
open Go.RowKit Plain

/-- The entries at the first n places are the same. -/
def sameB (L M : List Int) (b : Bool) (n : Nat) : Bool := b && (List.range n).all fun i => L.getD i 0 == M.getD i 0
theorem sameB_zero (L M : List Int) (b : Bool) : sameB L M b 0 = b := by simp [sameB]
theorem sameB_succ (L M : List Int) (b : Bool) (n : Nat) : sameB L M b (n + 1) = (sameB L M b n && (L.getD n 0 == M.getD n 0)) := by
  simp [sameB, List.range_succ, Bool.and_assoc]
/-- What the law asks of a road. -/
structure Rd (x k : Int) (L : List Int) : Prop where
  k0 : 0 ≤ k
  k4 : k ≤ 4
  len : (L.length : Int) = if k - 2 < 0 then 0 else k - 2
  ent : ∀ j, j < L.length → 0 ≤ L.getD j 0 ∧ L.getD j 0 < 80
theorem rd_of (x : Int) (h0 : 0 ≤ x) (h1 : x < 6483) : Rd x (rk x) (rl x) ∧ re x = 0 := by
  refine ⟨?_, if_neg (by omega)⟩
  by_cases h2 : x < 3
  · have e1 : rk x = x := by unfold rk; rw [if_neg (by omega), if_pos h2]
    have e2 : rl x = [] := if_pos (.inl h2)
    rw [e1, e2]
    exact ⟨h0, by omega, by simp; omega, fun j hj => by simp at hj⟩
  by_cases h3 : x < 83
  · have e1 : rk x = 3 := by unfold rk; rw [if_neg (by omega), if_neg h2, if_pos h3]
    have e2 : rl x = [x - 3] := by unfold rl; rw [if_neg (by omega), if_pos h3]
    rw [e1, e2]
    exact ⟨by omega, by omega, by simp, fun j hj => by
      have : j = 0 := by simpa using hj
      subst this
      simp; omega⟩
  · have e1 : rk x = 4 := by unfold rk; rw [if_neg (by omega), if_neg h2, if_neg h3]
    have e2 : rl x = [(x - 83) / 80, (x - 83) % 80] := by unfold rl; rw [if_neg (by omega), if_neg h3]
    rw [e1, e2]
    exact ⟨by omega, by omega, by simp, fun j hj => by
      have : j = 0 ∨ j = 1 := by simp at hj; omega
      rcases this with rfl | rfl <;> simp <;> omega⟩
theorem rd_end (x y : Int) (hx0 : 0 ≤ x) (hx1 : x < 6483) (hy0 : 0 ≤ y) (hy1 : y < 6483) : sameB (rl x) (rl y) ((rk x == rk y) && (((rl x).length : Int) == ((rl y).length : Int))) (rl x).length = (x == y) := by
  have f : ∀ z : Int, 0 ≤ z → z < 6483 → (z < 3 ∧ rk z = z ∧ rl z = []) ∨ (3 ≤ z ∧ z < 83 ∧ rk z = 3 ∧ rl z = [z - 3]) ∨ (83 ≤ z ∧ rk z = 4 ∧ rl z = [(z - 83) / 80, (z - 83) % 80]) := fun z h0 h1 => by
    unfold rk rl
    by_cases h2 : z < 3
    · exact .inl ⟨h2, by rw [if_neg (by omega), if_pos h2], by rw [if_pos (.inl h2)]⟩
    by_cases h3 : z < 83
    · exact .inr (.inl ⟨by omega, h3, by rw [if_neg (by omega), if_neg h2, if_pos h3], by rw [if_neg (by omega), if_pos h3]⟩)
    · exact .inr (.inr ⟨by omega, by rw [if_neg (by omega), if_neg h2, if_neg h3], by rw [if_neg (by omega), if_neg h3]⟩)
  rw [Bool.eq_iff_iff]
  rcases f x hx0 hx1 with ⟨a1, a2, a3⟩ | ⟨a0, a1, a2, a3⟩ | ⟨a1, a2, a3⟩ <;> rcases f y hy0 hy1 with ⟨b1, b2, b3⟩ | ⟨b0, b1, b2, b3⟩ | ⟨b1, b2, b3⟩ <;> rw [a2, a3, b2, b3] <;> simp [sameB, List.range_succ] <;> omega

set_option maxHeartbeats 2000000 in
theorem apart_core (a b x y k m : Int) (L M : List Int) (w : World) (ha : 0 ≤ a ∧ a ≤ 65535) (hb : 0 ≤ b ∧ b ≤ 65535) (ex : a % 6483 = x) (ey : b % 6483 = y)
    (HA : Box (∀ z : World, Calls Try.prog 14 #[.int .i64 x] z fun e w' => ∃ a, e = .returned (.tuple #[.int .i64 k, .slice a L.length L.length, .int .i64 0]) ∧ Way w' a L ∧ Below z.heap.size z w'))
    (HR : Box (∀ z : World, Calls Try.prog 14 #[.int .i64 y] z fun e w' => ∃ a, e = .returned (.tuple #[.int .i64 m, .slice a M.length M.length, .int .i64 0]) ∧ Way w' a M ∧ Below z.heap.size z w'))
    (HK : Box (Rd x k L)) (HE : Box (sameB L M ((k == m) && ((L.length : Int) == (M.length : Int))) L.length = (x == y))) (hM : M.length ≤ 2) :
    Calls Try.prog 5 #[.int .u16 a, .int .u16 b] w fun e w' => e = .returned (.bool true) ∧ Below w.heap.size w w' := by
  have d1 : a.tmod 6483 = x := by rw [Int.tmod_eq_emod_of_nonneg (by omega)]; exact ex
  have d2 : b.tmod 6483 = y := by rw [Int.tmod_eq_emod_of_nonneg (by omega)]; exact ey
  have W1 : IntKind.i64.wrap a = a := by rw [IntKind.wrap_i64]; omega
  have W2 : IntKind.i64.wrap b = b := by rw [IntKind.wrap_i64]; omega
  have k0 := HK.out.k0
  have k4 := HK.out.k4
  have hl := HK.out.len
  obtain ⟨n, hn⟩ : ∃ n, Box (L.length = n) := ⟨_, ⟨rfl⟩⟩
  obtain ⟨q, hq⟩ : ∃ q, Box (M.length = q) := ⟨_, ⟨rfl⟩⟩
  rw [hn.out] at hl HA HE
  rw [hq.out] at HR hM HE
  have hn2 : n ≤ 2 := by split at hl <;> omega
  clear ex ey
  go_enter Try.func5, Try.ntmps5
  go_upto_region 4 with (go_at_call 8; refine Calls.mono (awake_any w) ?_; rintro e w1 ⟨rfl, hb⟩; have H1 : Box (Below w.heap.size w w1) := ⟨hb⟩; clear hb)
  go_upto_region 6 with fail
  clear d1 d2 W1 W2 ha hb

  go_upto_region 7 with (go_at_call 14; refine Calls.mono (HA.out w1) ?_; rintro e w2 ⟨a2, rfl, hW, hb⟩; have H2 : Box (Way w2 a2 L ∧ Below w.heap.size w w2) := ⟨hW, below_to H1.out hb⟩; clear hW hb H1)
  go_upto_region 8 with (go_at_call 14; refine Calls.mono (HR.out w2) ?_; rintro e w3 ⟨a3, rfl, hW, hb⟩; have H3 : Box (Way w3 a2 L ∧ Way w3 a3 M ∧ Below w.heap.size w w3) := ⟨H2.out.1.on hb, hW, below_to H2.out.2 hb⟩; clear hW hb H2)
  clear HA HR
  obtain ⟨r, hr⟩ : ∃ r, Box ((x == y) = r) := ⟨_, ⟨rfl⟩⟩
  rw [hr.out] at HE
  obtain ⟨c0, hc⟩ : ∃ c, Box (((k == m) && ((n : Int) == (q : Int))) = c) := ⟨_, ⟨rfl⟩⟩
  rw [hc.out] at HE
  have HQ : Box (c0 = true → n = q) := ⟨fun h => by
    have := hc.out
    rw [h, Bool.and_eq_true] at this
    have := eq_of_beq this.2
    omega⟩
  by_cases h2 : k - 2 < 0 <;> cases hkm : (k == m) <;> cases hnq : ((n : Int) == (q : Int)) <;>
  · first
      | (rw [if_pos h2] at hl; have g1 : ((n : Int) != 0) = false := (by simp [hl]); clear hl)
      | (rw [if_neg h2] at hl; have g1 : ((n : Int) != k - 2) = false := (by simp [hl]); clear hl)
    rw [hkm, hnq] at hc
    go_upto_region 14 with fail
    clear g1 h2 hkm hnq k0 k4
    go_wp2
    go_loopw [15, 16] (fun s v wr => ∃ j : Nat, j ≤ n ∧ v = .int .i64 (j : Int) ∧ (∃ c B, s = .bool B ∧ Box (sameB L M c n = r ∧ (c = true → n = q) ∧ sameB L M c j = B)) ∧ Box (Way wr a2 L ∧ Way wr a3 M ∧ Below w.heap.size w wr)) (fun _ v _ => 5 - (intOf v).toNat)
    case atStart => exact ⟨0, by omega, rfl, ⟨c0, _, rfl, ⟨⟨HE.out, HQ.out, (sameB_zero _ _ _).trans hc.out.symm⟩⟩⟩, H3⟩
    case round =>
      obtain ⟨j, hj, rfl, ⟨c, B, rfl, HB⟩, HP⟩ := hrel
      clear H3 HE HQ
      by_cases hlt : j < n
      · have g5 : (j : Int) < (n : Int) := by omega
        obtain ⟨b2, rfl, _, hc2⟩ := HP.out.1 (by rw [hn.out]; omega)
        have d2 := hc2 j (by rw [hn.out]; exact hlt)
        have he := HK.out.ent j (by rw [hn.out]; exact hlt)
        have HN : Box (sameB L M c (j + 1) = (B && (L.getD j 0 == M.getD j 0))) := ⟨by rw [sameB_succ, HB.out.2.2]⟩
        clear hc2
        generalize L.getD j 0 = y2 at d2 he HN
        cases hB : B
        · rw [hB, Bool.false_and] at HN
          go_wp2
          go_roundw
          case rel => exact ⟨j + 1, by omega, by go_num, ⟨c, false, rfl, ⟨⟨HB.out.1, HB.out.2.1, HN.out⟩⟩⟩, HP⟩
          case measure => simp [intOf]; omega
        · rw [hB, Bool.true_and] at HN
          have hcq : n = q := HB.out.2.1 (by
            have := HB.out.2.2
            rw [hB] at this
            cases c
            · simp [sameB] at this
            · rfl)
          obtain ⟨b3, rfl, _, hc3⟩ := HP.out.2.1 (by rw [hq.out]; omega)
          have d3 := hc3 j (by rw [hq.out]; omega)
          clear hc3
          generalize M.getD j 0 = y3 at d3 HN
          have hjq : (j : Int) < (q : Int) := by omega
          clear hcq
          go_upto_region 20 with fail
          go_quiet (fail)
          have HQ : Box (Way (wr.drewN nq) (some ⟨b2, 0, none⟩) L ∧ Way (wr.drewN nq) (some ⟨b3, 0, none⟩) M ∧ Below w.heap.size w (wr.drewN nq)) := ⟨HP.out.1.drewN _, HP.out.2.1.drewN _, below_drewN HP.out.2.2 _⟩
          go_wp2
          go_roundw
          case rel => exact ⟨j + 1, by omega, by go_num, ⟨c, _, rfl, ⟨⟨HB.out.1, HB.out.2.1, HN.out⟩⟩⟩, HQ⟩
          case measure => simp [intOf]; omega
      · have g5 : ¬ (j : Int) < (n : Int) := by omega
        obtain rfl : j = n := by omega
        obtain rfl : r = B := by rw [← HB.out.1, HB.out.2.2]
        have hxy := hr.out
        go_wp2_with (refine wpList_run rfl _ _ (exec_bb _ _ _ rfl r rfl (by go_simp; (try rw [hxy]))) ?_)
        go_ret
        exact ⟨rfl, HP.out.2.2⟩
theorem inodeApart_walk (a b : Int) (w : World) (h1 : (Lit.int .u16 a).wf = true) (h2 : (Lit.int .u16 b).wf = true) : Calls Try.prog 5 #[.int .u16 a, .int .u16 b] w fun e w' => e = .returned (.bool true) ∧ Below w.heap.size w w' := by
  have ha := bounds_u16 h1
  have hb := bounds_u16 h2
  have x0 : 0 ≤ a % 6483 := by omega
  have x1 : a % 6483 < 6483 := by omega
  have y0 : 0 ≤ b % 6483 := by omega
  have y1 : b % 6483 < 6483 := by omega
  obtain ⟨rx, ex⟩ := rd_of _ x0 x1
  obtain ⟨ry, ey⟩ := rd_of _ y0 y1
  refine apart_core a b _ _ _ _ _ _ w ha hb rfl rfl ⟨fun z => ?_⟩ ⟨fun z => ?_⟩ ⟨rx⟩ ⟨rd_end _ _ x0 x1 y0 y1⟩ (by have h := ry.len; have := ry.k4; split at h <;> omega)
  · have := road_any (a % 6483) z (by omega)
    rwa [ex] at this
  · have := road_any (b % 6483) z (by omega)
    rwa [ey] at this
end Go.Proofs.Ytpdggopkalbbeaa
