/-
  What the Go functions fits and check of package word answer, for every argument. And what follows it.
-/
import Derived.Test.YthbbijaikcmaeaaGreatDoorRows
import Derived.WalkKit
import Derived.WalkSpells
import Derived.WalkLawsBesides
import Derived.Test.YthbbijaikcmaeaaGreatDoorT00
import Derived.Laws.AppendOwn
import Derived.OwnWalk
import Derived.Deep.RegionHeld3
namespace Go.Proofs.YthbbijaikcmaeaaGreatDoor
set_option maxRecDepth 100000
set_option linter.unusedVariables false
set_option maxRecDepth 100000
open Go.RowKit
set_option maxHeartbeats 400000 in
theorem fits_yes (n : Int) (w : World) (h1 : 1 ≤ n) (h2 : n ≤ 8) :
    Calls Tryz.prog 104 #[.int .i64 n] w fun e w' => e = .returned (.bool true) ∧ w = w' := by
  go_enter Tryz.func104, Tryz.ntmps104
  go_wp2
  go_ret
  exact ⟨rfl, rfl⟩
set_option maxHeartbeats 400000 in
theorem check_ok (a : Option Addr) (len cap : Nat) (at' n : Int) (w : World) (h1 : 1 ≤ n) (h2 : n ≤ 8) (hl : len ≤ maxLen) (h0 : 0 ≤ at') (h3 : at' + n ≤ (len : Int)) :
    Calls Tryz.prog 108 #[.slice a len cap, .int .i64 at', .int .i64 n] w fun e w' => e = .returned (.int .i64 0) ∧ w = w' := by
  unfold maxLen at hl
  have h4 : ¬ (len : Int) - n < at' := by omega
  have h5 : ¬ at' < 0 := by omega
  go_enter Tryz.func108, Tryz.ntmps108
  go_wp2_with (go_at_call 104; refine (fits_yes _ _ h1 h2).mono ?_; rintro e w' ⟨rfl, rfl⟩)
  go_ret
  exact ⟨rfl, rfl⟩
end Go.Proofs.YthbbijaikcmaeaaGreatDoor
namespace Go.Proofs.YthbbijaikcmaeaaGreatDoor
set_option maxRecDepth 100000
set_option linter.unusedVariables false
open Go.RowKit Plain
set_option maxHeartbeats 400000 in
theorem lay_any (g off n cap : Nat) (cur : List Value) (x : Int) (w : World) (hx0 : 0 ≤ x) (hx1 : x ≤ 18446744073709551615) (hn : n ≤ 8) (hg : w.heap[g]? = some (.cells cur.toArray 5 (0, 0))) (hfit : off + n ≤ cur.length) :
    Calls Tryz.prog 105 #[.slice (some ⟨g, off, none⟩) n cap, .int .u64 x] w fun e w' => e = .returned (.tuple #[]) ∧ w'.heap[g]? = some (.cells (splice cur off (bys x n)).toArray 5 (0, 0)) ∧ w.grownBy w' (some g) ∧ w'.heap.size = w.heap.size := by
  go_enter Tryz.func105, Tryz.ntmps105
  go_wp2
  go_loopw [7] (fun i wr => ∃ k : Nat, k ≤ n ∧ i = .int .i64 k ∧ wr.heap[g]? = some (.cells (splice cur off (bys x k)).toArray 5 (0, 0)) ∧ w.grownBy wr (some g) ∧ wr.heap.size = w.heap.size) (fun i _ => n - (intOf i).toNat)
  case atStart => exact ⟨0, Nat.zero_le _, rfl, by rw [bys_zero, splice_nil]; exact hg, World.grownBy.refl _ _, rfl⟩
  case round =>
    obtain ⟨k, hk, rfl, hg', hgr, hsz⟩ := hrel
    by_cases hlt : k < n
    · have hf : wr.frozen? ⟨g, off + k, none⟩ = false := frozen_of_row wr g (off + k) _ 5 hg'
      obtain ⟨v, hc⟩ := cell_row wr g (off + k) _ 5 hg' (by rw [length_splice _ _ _ (by rw [length_bys]; omega)]; omega)
      have R := lay_step w wr g off k cur x (by omega) hg' hgr hsz
      go_wp2
      go_roundw
      case rel => exact ⟨k + 1, by omega, by go_num, R⟩
      case measure => simp [intOf]; omega
    · obtain rfl : k = n := by omega
      go_wp2
      go_end0
      exact ⟨rfl, hg', hgr, hsz⟩
set_option maxHeartbeats 400000 in
theorem get_ok (a : Option Addr) (len cap : Nat) (L : List Int) (p n : Nat) (w : World) (hb : Bytes w a len L) (hl : len ≤ maxLen) (hn1 : 1 ≤ n) (hn2 : n ≤ 8) (hp : p + n ≤ len) :
    Calls Tryz.prog 85 #[.slice a len cap, .int .i64 p, .int .i64 n] w fun e w' => e = .returned (.tuple #[.int .u64 (num L p n), .int .i64 0]) ∧ w = w' := by
  obtain ⟨hL, hz, hc⟩ := hb
  obtain ⟨b, off, rfl, hlt, hc⟩ := hc (by omega)
  have hl' := hl
  unfold maxLen at hl'
  go_enter Tryz.func85, Tryz.ntmps85
  go_wp2_with (go_at_call 108; refine (check_ok _ _ _ _ _ _ (by omega) (by omega) hl (by omega) (by omega)).mono ?_; rintro e w' ⟨rfl, rfl⟩)
  go_loop [9, 19] (fun t i => ∃ k : Nat, k ≤ n ∧ i = .int .i64 k ∧ t = .int .u64 (num L p k)) (fun _ i => n - (intOf i).toNat)
  case atStart => exact ⟨0, Nat.zero_le _, rfl, rfl⟩
  case round =>
    obtain ⟨k, hk, rfl, rfl⟩ := hrel
    by_cases hlt : k < n
    · have hck := hc (p + k) (by omega)
      have hzk := hz (p + k)
      have hs : num L p (k + 1) = num L p k + L.getD (p + k) 0 * 2 ^ (8 * k) := rfl
      generalize L.getD (p + k) 0 = z at hck hzk hs
      have hnb := num_bd L p hz k
      generalize num L p k = t at hnb hs
      have HS : Hid (bits .or .u64 t (IntKind.u64.wrap (z * 2 ^ (8 * k))) = num L p (k + 1)) := by rw [hs]; exact or_step k (by omega) t z hnb hzk
      clear hc hz hs
      go_wp2
      go_round
      case rel => exact ⟨k + 1, by omega, by go_num, by rw [HS.out]⟩
      case measure => simp [intOf]; omega
    · obtain rfl : k = n := by omega
      go_wp2
      go_ret2
      exact ⟨rfl, rfl⟩
end Go.Proofs.YthbbijaikcmaeaaGreatDoor
namespace Go.Proofs.YthbbijaikcmaeaaGreatDoor
set_option maxRecDepth 100000
set_option linter.unusedVariables false
open Go.RowKit Plain
theorem Tryz.info5 : (Tryz.prog.info? 5).map (fun i => (i.zero, i.size, i.bytes)) = some (some (.int .u8 0), 1, 1) := by kernel_rfl
theorem splice_full (n : Nat) (x : Int) : splice (List.replicate n (Value.int .u8 0)) 0 (bys x n) = bys x n := by
  have := length_bys x n
  simp [splice, this]
set_option maxHeartbeats 400000 in
theorem put_ok (x : Int) (n : Nat) (w : World) (hx0 : 0 ≤ x) (hx1 : x ≤ 18446744073709551615) (h1 : 1 ≤ n) (h2 : n ≤ 8) :
    Calls Tryz.prog 80 #[.int .u64 x, .int .i64 n] w fun e w' => ∃ g, e = .returned (.slice (some ⟨g, 0, none⟩) n n) ∧ Out w w' (some ⟨g, 0, none⟩) n n (bytesOf x n) := by
  obtain ⟨i0, hi, hz0, hz1, hz2⟩ := info_parts Tryz.info5
  go_enter Tryz.func80, Tryz.ntmps80
  go_wp2_with (first | (go_at_call 104; refine (fits_yes _ _ (by omega) (by omega)).mono ?_; rintro e w' ⟨rfl, rfl⟩) | (at_make; refine wpList_make_full _ rfl (.tmp 9) (.tmp 9) 38 rfl _ 5 i0 (.int .u8 0) 1 Tryz.underlying38 hi hz0 hz1 _ _ _ _ n rfl rfl rfl rfl (by rw [hz2]; omega) (by unfold maxLen; omega) (Nat.le_refl _) ?_; intro w1 hown hgrow; have HR := made_row hown; clear hown))
  refine (lay_any _ 0 n n _ x _ hx0 hx1 h2 HR (by simp)).mono ?_
  rintro e w2 ⟨rfl, hr, hgr, _⟩
  rw [splice_full] at hr
  have hbl := ((Below.refl w.heap.size w).grown hgrow (Nat.le_refl _) (by simp)).grown hgr hgrow.size (by simp)
  clear HR hgrow hgr
  go_wp2
  go_ret
  exact ⟨_, rfl, Out.of_row (length_bytesOf x n) (by unfold maxLen; omega) (Nat.le_refl _) hr hbl⟩
end Go.Proofs.YthbbijaikcmaeaaGreatDoor
namespace Go.Proofs.YthbbijaikcmaeaaGreatDoor.Seq
set_option maxRecDepth 100000
open Go.RowKit
section
variable {P : Program} {md : Region.Mode} {ops : Array Oper} {Q : Exit → Act → World → Prop} {S S' : World → Prop}
def Lat (w0 : World) : World → Prop := fun w' => Below w0.heap.size w0 w'
theorem into (hS : ∀ w, S' w → S w) : ∀ (fuel : Nat) (listed : Array Bool) (a : Act) (w : World), wpAnyH P md ops Q S' fuel listed a w → wpAnyH P md ops Q S fuel listed a w
  | 0, _, _, _, h => h
  | fuel + 1, _, _, _, h => ⟨h.1, fun i hi => wpOp_mono (fun a' w' h' => ⟨hS _ h'.1, into hS fuel _ a' w' h'.2⟩) (h.2 i hi)⟩
theorem begin_lat {id : Nat} {a : Act} {w : World} (hm : P.follows .mixedOrders = true)
    (h : wpAnyH P .any ops Q (Lat w.drew) ops.size (Array.replicate ops.size false) a w.drew) : (Code.region id ops true).wp P Q a w :=
  wp_region_held_drew (S := Lat w.drew) hm (Below.refl _ _) (fun _ => h)
theorem begin_any {id : Nat} {a : Act} {w : World} (hm : P.follows .mixedOrders = true)
    (h : ∀ wd, Below w.heap.size w wd → wpAnyH P .any ops Q (Lat wd) ops.size (Array.replicate ops.size false) a wd) : (Code.region id ops true).wp P Q a w :=
  begin_lat hm (h _ (Below.refl _ _).drew)
theorem take_lat {i : Nat} {oi : Oper} {v : Value} {fuel : Nat} {listed : Array Bool} {a : Act} {w : World} (hi : ops[i]? = some oi)
    (hs : Region.noSelect ops = true) (hf : Region.free md ops listed i = true) (hr : (Region.ready md ops listed).contains i = true)
    (hQ : ∀ c a w, Q (.panic c) (a.put oi.dst v) w → Q (.panic c) a w) (hw : Region.wanted oi (yielded ops a.tmps) = true)
    (hv : ∀ w', Lat w w' → (execOp a.eval oi).run P w' = .ok (.value v) w')
    (h : wpAnyH P md ops Q (Lat w) fuel (listed.setIfInBounds i true) (a.put oi.dst v) w) : wpAnyH P md ops Q (Lat w) (fuel + 1) listed a w :=
  wpAnyH_take hi hs hf hr hQ (Or.inl ⟨hw, hv⟩) (Below.refl _ _) h
theorem only_lat {i : Nat} {o : Oper} {fuel : Nat} {listed : Array Bool} {a : Act} {w : World} (ho : ops[i]? = some o) (hr : Region.ready md ops listed = [i])
    (h : ∀ K' : Act → World → Prop, Shut (∀ a w1, Below w.heap.size w w1 → wpAnyH P md ops Q (Lat w1) fuel (listed.setIfInBounds i true) a w1 → K' a w1) → if Region.wanted o (yielded ops a.tmps) = true then Oper.wp P o a w K' Q else K' (a.put o.dst undef) w) :
    wpAnyH P md ops Q (Lat w) (fuel + 1) listed a w := by
  refine wpAnyH_ready hr (by simp) (AllReadyH.cons ho (fun K' hK => h K' ?_) AllReadyH.nil)
  intro a1 w1 hb hn
  exact hK.out a1 w1 hb (fun _ => into (fun w' hl => hb.trans (hl.mono hb.size)) _ _ _ _ hn)
end
end Go.Proofs.YthbbijaikcmaeaaGreatDoor.Seq
