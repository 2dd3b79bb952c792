/-
 What the Go functions lay and Get of package word do, for every argument that the statements hand them. And what follows it.
-/
import Derived.Test.YthfobaeafapbnaaDoorQ00
import Derived.Laws.AppendOwn
import Derived.OwnWalk
import Derived.Deep.RegionHeld3
import Derived.WalkKit
set_option linter.unusedVariables false
set_option maxRecDepth 100000
namespace Go.Proofs.YthfobaeafapbnaaDoor
open Go.RowKit Plain
set_option maxHeartbeats 400000 in
theorem lay_any (g off n cap : Nat) (cur : List Value) (x : Int) (w : World) (hx0 : 0 <= x) (hx1 : x <= 18446744073709551615) (hn : n <= 8) (hg : w.heap[g]? = some (.cells cur.toArray 5 (0, 0))) (hfit : off + n <= cur.length) :
  Calls Tryd.prog 63 #[.slice (some ⟨g, off, none⟩) n cap, .int .u64 x] w fun e w' => e = .returned (.tuple #[]) /\ w'.heap[g]? = some (.cells (splice cur off (bys x n)).toArray 5 (0, 0)) /\ w.grownBy w' (some g) /\ w'.heap.size = w.heap.size := by
 go_enter Tryd.func63, Tryd.ntmps63
 go_wp2
 go_loopw [7] (fun i wr => ∃ k : Nat, k <= n /\ i = .int .i64 k /\ wr.heap[g]? = some (.cells (splice cur off (bys x k)).toArray 5 (0, 0)) /\ w.grownBy wr (some g) /\ wr.heap.size = w.heap.size) (fun i _ => n - (intOf i).toNat)
 case atStart => exact ⟨0, Nat.zero_le _, rfl, by rw [bys_zero, splice_nil]; exact hg, World.grownBy.refl _ _, rfl⟩
 case round =>
  obtain ⟨k, hk, rfl, hg', hgr, hsz⟩ := hrel
  by_cases hlt : k < n
  ·have hf : wr.frozen? ⟨g, off + k, none⟩ = false := frozen_of_row wr g (off + k) _ 5 hg'
   obtain ⟨v, hc⟩ := cell_row wr g (off + k) _ 5 hg' (by rw [length_splice _ _ _ (by rw [length_bys]; omega)]; omega)
   have R := lay_step w wr g off k cur x (by omega) hg' hgr hsz
   go_wp2
   go_roundw
   case rel => exact ⟨k + 1, by omega, by go_num, R⟩
   case measure => simp [intOf]; omega
  ·obtain rfl : k = n := by omega
   go_wp2
   go_end0
   exact ⟨rfl, hg', hgr, hsz⟩
set_option maxHeartbeats 400000 in
theorem get_ok (a : Option Addr) (len cap : Nat) (L : List Int) (p n : Nat) (w : World) (hb : Bytes w a len L) (hl : len <= maxLen) (hn1 : 1 <= n) (hn2 : n <= 8) (hp : p + n <= len) :
  Calls Tryd.prog 96 #[.slice a len cap, .int .i64 p, .int .i64 n] w fun e w' => e = .returned (.tuple #[.int .u64 (num L p n), .int .i64 0]) /\ w = w' := by
 obtain ⟨hL, hz, hc⟩ := hb
 obtain ⟨b, off, rfl, hlt, hc⟩ := hc (by omega)
 have hl' := hl
 unfold maxLen at hl'
 go_enter Tryd.func96, Tryd.ntmps96
 go_wp2_with (go_at_call 97; refine (check_ok _ _ _ _ _ _ (by omega) (by omega) hl (by omega) (by omega)).mono ?_; rintro e w' ⟨rfl, rfl⟩)
 go_loop [9, 19] (fun t i => ∃ k : Nat, k <= n /\ i = .int .i64 k /\ t = .int .u64 (num L p k)) (fun _ i => n - (intOf i).toNat)
 case atStart => exact ⟨0, Nat.zero_le _, rfl, rfl⟩
 case round =>
  obtain ⟨k, hk, rfl, rfl⟩ := hrel
  by_cases hlt : k < n
  ·have hck := hc (p + k) (by omega)
   have hzk := hz (p + k)
   have hs : num L p (k + 1) = num L p k + L.getD (p + k) 0 * 2 ^ (8 * k) := rfl
   generalize L.getD (p + k) 0 = z at hck hzk hs
   have hnb := num_bd L p hz k
   generalize num L p k = t at hnb hs
   have HS : Hid (bits .or .u64 t (IntKind.u64.wrap (z * 2 ^ (8 * k))) = num L p (k + 1)) := by rw [hs]; exact or_step k (by omega) t z hnb hzk
   clear hc hz hs
   go_wp2
   go_round
   case rel => exact ⟨k + 1, by omega, by go_num, by rw [HS.out]⟩
   case measure => simp [intOf]; omega
  ·obtain rfl : k = n := by omega
   go_wp2
   go_ret2
   exact ⟨rfl, rfl⟩
theorem Tryd.info5 : (Tryd.prog.info? 5).map (fun i => (i.zero, i.size, i.bytes)) = some (some (.int .u8 0), 1, 1) := by kernel_rfl
theorem splice_full (n : Nat) (x : Int) : splice (List.replicate n (Value.int .u8 0)) 0 (bys x n) = bys x n := by
 have := length_bys x n
 simp [splice, this]
set_option maxHeartbeats 400000 in
theorem put_ok (x : Int) (n : Nat) (w : World) (hx0 : 0 <= x) (hx1 : x <= 18446744073709551615) (h1 : 1 <= n) (h2 : n <= 8) :
  Calls Tryd.prog 42 #[.int .u64 x, .int .i64 n] w fun e w' => ∃ g, e = .returned (.slice (some ⟨g, 0, none⟩) n n) /\ Out w w' (some ⟨g, 0, none⟩) n n (bytesOf x n) := by
 obtain ⟨i0, hi, hz0, hz1, hz2⟩ := info_parts Tryd.info5
 go_enter Tryd.func42, Tryd.ntmps42
 go_wp2_with (first | (go_at_call 62; refine (fits_yes _ _ (by omega) (by omega)).mono ?_; rintro e w' ⟨rfl, rfl⟩) | (at_make; refine wpList_make_full _ rfl (.tmp 9) (.tmp 9) 63 rfl _ 5 i0 (.int .u8 0) 1 Tryd.underlying63 hi hz0 hz1 _ _ _ _ n rfl rfl rfl rfl (by rw [hz2]; omega) (by unfold maxLen; omega) (Nat.le_refl _) ?_; intro w1 hown hgrow; have HR := made_row hown; clear hown))
 refine (lay_any _ 0 n n _ x _ hx0 hx1 h2 HR (by simp)).mono ?_
 rintro e w2 ⟨rfl, hr, hgr, _⟩
 rw [splice_full] at hr
 have hbl := ((Below.refl w.heap.size w).grown hgrow (Nat.le_refl _) (by simp)).grown hgr hgrow.size (by simp)
 clear HR hgrow hgr
 go_wp2
 go_ret
 exact ⟨_, rfl, Out.of_row (length_bytesOf x n) (by unfold maxLen; omega) (Nat.le_refl _) hr hbl⟩
theorem own_snoc {w' : World} {base n : Nat} {v : Value} {L : List Int} {z : Int} (h : w'.ownsRow base 5 1 v (n + 1) (L.map (Value.int .u8) ++ [.int .u8 z])) : w'.ownsRow base 5 1 v (n + 1) ((L ++ [z]).map (Value.int .u8)) := by
 rw [List.map_append]; exact h
theorem mul_step (k : Nat) (hk : k < 8) (z M t : Int) (hM : M = 2 ^ (8 * k)) (hz : 0 <= z /\ z <= 255) (ht : 0 <= t /\ t < 2 ^ (8 * k)) :
  IntKind.u64.wrap (z * M) = z * M /\ 0 <= z * M /\ t + z * M <= 18446744073709551615 := by
 have hp : (0 : Int) < 2 ^ (8 * k) := Int.pow_pos (by omega)
 have h1 : z * M <= 255 * M := Int.mul_le_mul_of_nonneg_right hz.2 (by omega)
 have h0 : 0 <= z * M := Int.mul_nonneg hz.1 (by omega)
 have h2 : (2 : Int) ^ (8 * k) <= 2 ^ 56 := by
  have := Nat.pow_le_pow_right (n := 2) (by omega) (show 8 * k <= 56 by omega)
  exact_mod_cast this
 rw [<- hM] at ht h2 hp
 refine ⟨?_, h0, by omega⟩
 rw [IntKind.wrap_u64]
 exact Int.emod_eq_of_lt h0 (by omega)
theorem pow_step (k : Nat) (hk : k < 7) (M : Int) (hM : M = 2 ^ (8 * k)) : IntKind.u64.wrap (M * 256) = 2 ^ (8 * (k + 1)) := by
 have h2 : (2 : Int) ^ (8 * k) <= 2 ^ 48 := by
  have := Nat.pow_le_pow_right (n := 2) (by omega) (show 8 * k <= 48 by omega)
  exact_mod_cast this
 have hp : (0 : Int) < 2 ^ (8 * k) := Int.pow_pos (by omega)
 rw [IntKind.wrap_u64, pow8, <- hM, Int.mul_comm]
 rw [<- hM] at h2 hp
 exact Int.emod_eq_of_lt (by omega) (by omega)
set_option maxHeartbeats 400000 in
theorem rget_ok (a : Option Addr) (len cap : Nat) (L : List Int) (p n : Nat) (w : World) (hb : Bytes w a len L) (hl : len <= maxLen) (hn1 : 1 <= n) (hn2 : n <= 8) (hp : p + n <= len) :
  Calls Tryd.prog 90 #[.slice a len cap, .int .i64 p, .int .i64 n] w fun e w' => e = .returned (.tuple #[.int .u64 (num L p n), .int .i64 0]) /\ w = w' := by
 obtain ⟨hL, hz, hc⟩ := hb
 obtain ⟨b, off, rfl, hlt, hc⟩ := hc (by omega)
 have hl' := hl
 unfold maxLen at hl'
 have h3 : ¬ (n : Int) < 1 := by omega
 have h4 : ¬ 8 < (n : Int) := by omega
 have h5 : ¬ (p : Int) < 0 := by omega
 have h6 : ¬ (len : Int) < (p : Int) := by omega
 have h7 : ¬ (len : Int) - (p : Int) < (n : Int) := by omega
 go_enter Tryd.func90, Tryd.ntmps90
 go_wp2
 go_loop [8, 9, 10] (fun t m i => ∃ (k : Nat) (M : Int), k <= n /\ i = .int .i64 k /\ t = .int .u64 (num L p k) /\ m = .int .u64 M /\ (k < n -> M = 2 ^ (8 * k))) (fun _ _ i => n - (intOf i).toNat)
 case atStart => exact ⟨0, 1, Nat.zero_le _, rfl, rfl, rfl, fun _ => rfl⟩
 case round =>
  obtain ⟨k, M, hk, rfl, rfl, rfl, hM⟩ := hrel
  by_cases hlt : k < n
  ·have hck := hc (p + k) (by omega)
   have hzk := hz (p + k)
   have hs : num L p (k + 1) = num L p k + L.getD (p + k) 0 * 2 ^ (8 * k) := rfl
   generalize L.getD (p + k) 0 = z at hck hzk hs
   have hnb := num_bd L p hz k
   generalize num L p k = t at hnb hs
   obtain ⟨hw1, hw2, hw3⟩ := mul_step k (by omega) z M t (hM hlt) hzk hnb
   rw [<- hM hlt] at hs hnb
   have HM : Hid (k + 1 < n -> IntKind.u64.wrap (M * 256) = 2 ^ (8 * (k + 1))) := fun h => pow_step k (by omega) M (hM hlt)
   have HS : Hid (IntKind.u64.wrap (t + IntKind.u64.wrap (z * M)) = num L p (k + 1)) := by
    show IntKind.u64.wrap (t + IntKind.u64.wrap (z * M)) = num L p (k + 1)
    rw [hs, hw1, IntKind.wrap_u64]
    exact Int.emod_eq_of_lt (by omega) (by omega)
   clear hc hz hs hM hw1 hw2 hw3
   go_wp2
   go_round
   case rel => exact ⟨k + 1, _, by omega, by go_num, by rw [HS.out], rfl, HM.out⟩
   case measure => simp [intOf]; omega
  ·obtain rfl : k = n := by omega
   clear hM hc hz
   go_wp2
   go_ret2
   exact ⟨rfl, rfl⟩
theorem div_step (x : Int) (j : Nat) : x / 2 ^ (8 * j) / 256 = x / 2 ^ (8 * (j + 1)) := by
 rw [pow8, Int.mul_comm, Int.ediv_ediv_of_nonneg (Int.le_of_lt (Int.pow_pos (by omega)))]
set_option maxHeartbeats 400000 in
theorem rput_any (x n : Int) (N : Nat) (w : World) (hx : 0 <= x /\ x <= 18446744073709551615) (hN : n.toNat = N) (h8 : n <= 8) :
  Calls Tryd.prog 64 #[.int .u64 x, .int .i64 n] w fun e w' => ∃ a' cap', e = .returned (.slice a' N cap') /\ Out w w' a' N cap' (bytesOf x N) := by
 obtain ⟨i0, hi, hz0, hz1, hz2⟩ := info_parts Tryd.info5
 have h8' : ¬ 8 < n := by omega
 go_enter Tryd.func64, Tryd.ntmps64
 go_wp2
 go_loopw [0, 5, 6] (fun t v i wr => ∃ j : Nat, j <= N /\ i = .int .i64 j /\ t = .int .u64 (x / 2 ^ (8 * j)) /\ wr.ownsRow w.heap.size 5 1 v j ((bytesOf x j).map (Value.int .u8)) /\ Below w.heap.size w wr) (fun _ _ i _ => N - (intOf i).toNat)
 case atStart => exact ⟨0, Nat.zero_le _, rfl, by simp, World.ownsRow_nil _ _ _ _, Below.refl _ _⟩
 case round =>
  obtain ⟨j, hj, rfl, rfl, hown, hbel⟩ := hrel
  have hsz := hbel.size
  by_cases hlt : j < N
  ·have hltn : (j : Int) < n := by omega
   have hr : bytesOf x (j + 1) = bytesOf x j ++ [x / 2 ^ (8 * j) % 256] := rfl
   have hd := div_step x j
   have hy : 0 <= x / 2 ^ (8 * j) /\ x / 2 ^ (8 * j) <= 18446744073709551615 := by
    have hp : (0 : Int) < 2 ^ (8 * j) := Int.pow_pos (by omega)
    have h1 := Int.ediv_le_self (2 ^ (8 * j)) hx.1
    exact ⟨Int.ediv_nonneg hx.1 (by omega), by omega⟩
   generalize x / 2 ^ (8 * j) = y at hr hd hy
   have HR : Hid (bytesOf x (j + 1) = bytesOf x j ++ [y % 256]) := hr
   have HD : Hid (y / 256 = x / 2 ^ (8 * (j + 1))) := hd
   clear hr hd
   go_wp2_with (at_builtin; refine wpList_append_own _ rfl (.tmp 15) (.tmp 19) 63 rfl w.heap.size 5 i0 (.int .u8 0) 1 1 Tryd.underlying63 hi hz0 hz1 hz2 rfl (by decide) _ _ _ rfl (hown.alloc _) _ 1 1 [.int .u8 (y % 256)] rfl rfl (cell_one_new _ _ _) (oneCell_int _) (by unfold maxLen; omega) (by omega) (by simp; omega) ?_; intro v' w3 hown3 hgrow3 _; have hbel3 := (hbel.alloc hsz _).grown hgrow3 (by simp; omega) (own_block_le hown); have hown4 := own_snoc hown3; clear hgrow3 hown hown3)
   go_roundw
   case rel => exact ⟨j + 1, by omega, by go_num, by rw [<- HD.out], by rw [HR.out]; exact hown4, hbel3⟩
   case measure => simp [intOf]; omega
  ·obtain rfl : j = N := by omega
   have hltn : ¬ (j : Int) < n := by omega
   obtain ⟨a', cap', rfl⟩ := own_form hown
   go_wp2
   go_ret
   exact ⟨a', cap', rfl, length_bytesOf x j, hown, hbel⟩
end Go.Proofs.YthfobaeafapbnaaDoor
namespace Go.Proofs.YthfobaeafapbnaaDoor
theorem pC {α : Type} (l : List α) (i : Nat) (v : α) : l.toArray.setIfInBounds i v = (l.set i v).toArray := List.setIfInBounds_toArray _ _ _
theorem pD {α : Type} (x : α) (l : List α) (v : α) : (x :: l).set 0 v = v :: l := rfl
theorem pE {α : Type} (x : α) (l : List α) (i : Nat) (v : α) : (x :: l).set (i + 1) v = x :: l.set i v := rfl
theorem pF {α : Type} (l : List α) (i : Nat) (h : i < l.toArray.size) : l.toArray[i]'h = l[i]'(by simpa using h) := rfl
theorem pG {α : Type} (x : α) (l : List α) (h : 0 < (x :: l).length) : (x :: l)[0]'h = x := rfl
theorem pH {α : Type} (x : α) (l : List α) (i : Nat) (h : i + 1 < (x :: l).length) : (x :: l)[i + 1]'h = l[i]'(by simpa using h) := rfl
end Go.Proofs.YthfobaeafapbnaaDoor
namespace Go.Proofs.YthfobaeafapbnaaDoor.Seq
open Go.RowKit
section
variable {P : Program} {md : Region.Mode} {ops : Array Oper} {Q : Exit -> Act -> World -> Prop} {S S' : World -> Prop}
def Lat (w0 : World) : World -> Prop := fun w' => Below w0.heap.size w0 w'
theorem into (hS : ∀ w, S' w -> S w) : ∀ (fuel : Nat) (listed : Array Bool) (a : Act) (w : World), wpAnyH P md ops Q S' fuel listed a w -> wpAnyH P md ops Q S fuel listed a w
 | 0, _, _, _, h => h
 | fuel + 1, _, _, _, h => ⟨h.1, fun i hi => wpOp_mono (fun a' w' h' => ⟨hS _ h'.1, into hS fuel _ a' w' h'.2⟩) (h.2 i hi)⟩
theorem begin_lat {id : Nat} {a : Act} {w : World} (hm : P.follows .mixedOrders = true)
  (h : wpAnyH P .any ops Q (Lat w.drew) ops.size (Array.replicate ops.size false) a w.drew) : (Code.region id ops true).wp P Q a w :=
 wp_region_held_drew (S := Lat w.drew) hm (Below.refl _ _) (fun _ => h)
theorem begin_any {id : Nat} {a : Act} {w : World} (hm : P.follows .mixedOrders = true)
  (h : ∀ wd, Below w.heap.size w wd -> wpAnyH P .any ops Q (Lat wd) ops.size (Array.replicate ops.size false) a wd) : (Code.region id ops true).wp P Q a w :=
 begin_lat hm (h _ (Below.refl _ _).drew)
theorem take_lat {i : Nat} {oi : Oper} {v : Value} {fuel : Nat} {listed : Array Bool} {a : Act} {w : World} (hi : ops[i]? = some oi)
  (hs : Region.noSelect ops = true) (hf : Region.free md ops listed i = true) (hr : (Region.ready md ops listed).contains i = true)
  (hQ : ∀ c a w, Q (.panic c) (a.put oi.dst v) w -> Q (.panic c) a w) (hw : Region.wanted oi (yielded ops a.tmps) = true)
  (hv : ∀ w', Lat w w' -> (execOp a.eval oi).run P w' = .ok (.value v) w')
  (h : wpAnyH P md ops Q (Lat w) fuel (listed.setIfInBounds i true) (a.put oi.dst v) w) : wpAnyH P md ops Q (Lat w) (fuel + 1) listed a w :=
 wpAnyH_take hi hs hf hr hQ (Or.inl ⟨hw, hv⟩) (Below.refl _ _) h
theorem take_lx {i : Nat} {oi : Oper} {v : Value} {fuel : Nat} {listed : Array Bool} {a : Act} {w : World} (hi : ops[i]? = some oi) (hv : ∀ w', Lat w w' -> (execOp a.eval oi).run P w' = .ok (.value v) w')
  (h : wpAnyH P md ops Q (Lat w) fuel (listed.setIfInBounds i true) (a.put oi.dst v) w) (hs : Region.noSelect ops = true := by kernel_rfl) (hf : Region.free md ops listed i = true := by kernel_rfl) (hr : (Region.ready md ops listed).contains i = true := by kernel_rfl)
  (hQ : ∀ c a w, Q (.panic c) (a.put oi.dst v) w -> Q (.panic c) a w := by exact fun _ _ _ h => h) (hw : Region.wanted oi (yielded ops a.tmps) = true := by rfl) : wpAnyH P md ops Q (Lat w) (fuel + 1) listed a w :=
 take_lat hi hs hf hr hQ hw hv h
theorem only_lat {i : Nat} {o : Oper} {fuel : Nat} {listed : Array Bool} {a : Act} {w : World} (ho : ops[i]? = some o) (hr : Region.ready md ops listed = [i])
  (h : ∀ K' : Act -> World -> Prop, Shut (∀ a w1, Below w.heap.size w w1 -> wpAnyH P md ops Q (Lat w1) fuel (listed.setIfInBounds i true) a w1 -> K' a w1) -> if Region.wanted o (yielded ops a.tmps) = true then Oper.wp P o a w K' Q else K' (a.put o.dst undef) w) :
  wpAnyH P md ops Q (Lat w) (fuel + 1) listed a w := by
 refine wpAnyH_ready hr (by simp) (AllReadyH.cons ho (fun K' hK => h K' ?_) AllReadyH.nil)
 intro a1 w1 hb hn
 exact hK.out a1 w1 hb (fun _ => into (fun w' hl => hb.trans (hl.mono hb.size)) _ _ _ _ hn)
end
end Go.Proofs.YthfobaeafapbnaaDoor.Seq
