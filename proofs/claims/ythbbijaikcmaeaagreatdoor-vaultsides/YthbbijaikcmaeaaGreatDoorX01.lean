/-
  Rows of bytes of a call's own: appended to, cut, one byte of them set; nothing of the program is said here but the types' numbers. And what follows it.
-/
import Derived.Deep.Cut
import Derived.Test.YthbbijaikcmaeaaGreatDoorX00
import Derived.Test.YthbbijaikcmaeaaGreatDoorRows
import Derived.WalkKit
import Derived.WalkSpells
import Derived.WalkLawsBesides
import Derived.Laws.AppendOwn
import Derived.OwnWalk
import Derived.Deep.RegionHeld3
namespace Go.Proofs.YthbbijaikcmaeaaGreatDoor
set_option maxRecDepth 100000
set_option linter.unusedVariables false
set_option maxRecDepth 100000
open Go.RowKit Plain
theorem info5 : (Tryz.prog.info? 5).map (fun i => (i.zero, i.size, i.bytes)) = some (some (.int .u8 0), 1, 1) := by kernel_rfl
theorem own_cap {w : World} {base n cap : Nat} {a : Option Addr} {xs : List Value} (h : w.ownsRow base 5 1 (.slice a n cap) n xs) : n ≤ cap ∧ cap ≤ maxLen := by
  rcases h.2 with ⟨h1, h2⟩ | ⟨g, cap', cur, h1, _, _, h2, h3, _⟩
  · simp only [Value.slice.injEq] at h1
    obtain ⟨_, rfl, rfl⟩ := h1
    exact ⟨Nat.le_refl _, Nat.zero_le _⟩
  · simp only [Value.slice.injEq, true_and] at h1
    obtain ⟨_, rfl⟩ := h1
    exact ⟨h2, h3⟩
theorem bytes_news {w : World} {ad : Addr} {len : Nat} {L : List Int} (h : Bytes w (some ad) len L) : ∀ j u, (L.map (Value.int .u8))[j]? = some u → w.cell? (ad.add j) = some u := by
  intro j u hj
  have hlt : j < L.length := by simpa using (List.getElem?_eq_some_iff.1 hj).1
  obtain ⟨b, off, he, _, hc⟩ := h.2.2 (by rw [← h.1]; omega)
  simp only [Option.some.injEq] at he
  subst he
  rw [Addr.add_lit, hc j (by rw [← h.1]; exact hlt), ← hj]
  simp [hlt]
theorem run_append_none {w : World} {base n c : Nat} {v : Value} {xs : List Value} {ty : TypeId} (h : w.ownsRow base 5 1 v n xs) : (Builtin.append_ #[38, 38] ty #[v, .slice none 0 c]).run Tryz.prog w = .ok v w := by
  obtain ⟨i0, hi, hz0, hz1, hz2⟩ := info_parts info5
  rcases h.2 with ⟨rfl, rfl⟩ | ⟨g, cap', cur, rfl, _, _, hle, _⟩
  · simp [Builtin.append_, run_underlying Tryz.underlying38, sizeOf, typeInfo, hi, Builtin.lenOf, Builtin.firstCells]
  · simp [Builtin.append_, run_underlying Tryz.underlying38, sizeOf, typeInfo, hi, Builtin.lenOf, Builtin.firstCells, hle, storeCells]
theorem wpList_app {ops : Array Oper} {rest : List Oper} {o : Oper} {act : Act} {w : World} {Q : Exit → Act → World → Prop} (hgd : o.guard = none) (s x : Operand)
    (ho : o.op = .call { callee := .builtin .append, args := #[s, x], argTypes := #[38, 38] }) (base n m c : Nat) (v : Value) (A L : List Int) (a : Option Addr) (w0 : World)
    (hs : act.eval s = v) (hx : act.eval x = .slice a m c) (hown : w.ownsRow base 5 1 v n (A.map (Value.int .u8))) (hb : Bytes w a m L) (hl : n + m ≤ 140737488355328) (hbel : Below base w0 w) (hbase : base ≤ w.heap.size)
    (h : ∀ v' w', Box (w'.ownsRow base 5 1 v' (n + m) ((A ++ L).map (Value.int .u8)) ∧ Below base w0 w' ∧ base ≤ w'.heap.size) → wpList Tryz.prog ops Q rest (act.put o.dst v') w') : wpList Tryz.prog ops Q (o :: rest) act w := by
  obtain ⟨i0, hi, hz0, hz1, hz2⟩ := info_parts info5
  cases a with
  | none =>
    have hm : m = 0 := by
      by_cases hm : m = 0
      · exact hm
      · obtain ⟨_, _, he, _⟩ := hb.2.2 (by omega)
        cases he
    subst hm
    obtain rfl : L = [] := List.eq_nil_of_length_eq_zero hb.1
    refine wpList_plain hgd fun _ hK => ?_
    unfold Oper.wp execOp
    simp only [ho, resolve, invoke, builtin, Sem.run_bind, Sem.run_pure, Result.andThen_ok, List.map_toArray, List.map_cons, List.map_nil, hs, hx, run_append_none hown]
    exact hK _ _ (h v w ⟨by simpa using hown, hbel, hbase⟩)
  | some ad =>
    refine wpList_append_own w hgd s x 38 ho base 5 i0 (.int .u8 0) 1 1 Tryz.underlying38 hi hz0 hz1 hz2 rfl (by decide) v n _ hs hown ad m c (L.map (Value.int .u8)) hx (by simp [hb.1]) (bytes_news hb) (ints_oneCell _ _) (by unfold maxLen; omega) (by omega) hbase ?_
    intro v' w' h1 h2 _
    have := h2.size
    exact h v' w' ⟨by rw [List.map_append]; exact h1, hbel.grown h2 hbase (own_block_le hown), by omega⟩
theorem exec_slice {o : Oper} {a : Act} {w' : World} (t : TypeId) (x : Operand) (lo hi : Option Operand) (ho : o.op = .slice t x lo hi none) (r : Value) (h : (Instr.sliceAt t (a.eval x) (lo.map a.eval) (hi.map a.eval) none).run Tryz.prog w' = .ok r w') :
    (execOp a.eval o).run Tryz.prog w' = .ok (.value r) w' := by
  unfold execOp
  simp only [ho, Option.map_none, Sem.run_bind, Sem.run_pure, h, Result.andThen_ok]
theorem slice_lo (a : Option Addr) (len cap n : Nat) (hn : n ≤ len) (hc : len ≤ cap) : ∃ a', (∀ x, (Instr.sliceAt 38 (.slice a len cap) (some (.int .i64 (n : Int))) none none).run Tryz.prog x = .ok (.slice a' (len - n) (cap - n)) x) ∧ ∀ x B, Bytes x a len B → Bytes x a' (len - n) (B.drop n) := by
  refine ⟨if cap = n then a else a.map (·.add (n * 1)), fun x => ?_, fun x B hB => ?_⟩
  · have hu : Tryz.prog.underlying 38 = some (.slice (Tryz.prog.elem 38)) := by kernel_rfl
    rw [run_sliceAt_slice (P := Tryz.prog) x 38 _ _ _ _ hu, run_slice_l (P := Tryz.prog) x 38 a len cap hu .i64 (n : Int) (by omega) (by omega)]
    have hs : (sizeOf (Tryz.prog.elem 38)).run Tryz.prog x = .ok 1 x := by kernel_rfl
    rw [hs, Result.andThen_ok, sliced]
    simp
  · refine ⟨by rw [List.length_drop, hB.1], byt_drop B n hB.2.1, fun hp => ?_⟩
    obtain ⟨b, off, rfl, hlt, hcl⟩ := hB.2.2 (by omega)
    rw [if_neg (by omega)]
    refine ⟨b, off + n, by simp [Addr.add_mid], hlt, fun i hi => ?_⟩
    rw [Nat.add_assoc, hcl (n + i) (by omega)]
    simp [List.getD, List.getElem?_drop]
end Go.Proofs.YthbbijaikcmaeaaGreatDoor
namespace Go.Proofs.YthbbijaikcmaeaaGreatDoor
set_option maxRecDepth 100000
set_option linter.unusedVariables false
open Go.RowKit
set_option maxHeartbeats 400000 in
theorem fits_yes (n : Int) (w : World) (h1 : 1 ≤ n) (h2 : n ≤ 8) :
    Calls Tryz.prog 104 #[.int .i64 n] w fun e w' => e = .returned (.bool true) ∧ w = w' := by
  go_enter Tryz.func104, Tryz.ntmps104
  go_wp2
  go_ret
  exact ⟨rfl, rfl⟩
set_option maxHeartbeats 400000 in
theorem check_ok (a : Option Addr) (len cap : Nat) (at' n : Int) (w : World) (h1 : 1 ≤ n) (h2 : n ≤ 8) (hl : len ≤ maxLen) (h0 : 0 ≤ at') (h3 : at' + n ≤ (len : Int)) :
    Calls Tryz.prog 108 #[.slice a len cap, .int .i64 at', .int .i64 n] w fun e w' => e = .returned (.int .i64 0) ∧ w = w' := by
  unfold maxLen at hl
  have h4 : ¬ (len : Int) - n < at' := by omega
  have h5 : ¬ at' < 0 := by omega
  go_enter Tryz.func108, Tryz.ntmps108
  go_wp2_with (go_at_call 104; refine (fits_yes _ _ h1 h2).mono ?_; rintro e w' ⟨rfl, rfl⟩)
  go_ret
  exact ⟨rfl, rfl⟩
end Go.Proofs.YthbbijaikcmaeaaGreatDoor
namespace Go.Proofs.YthbbijaikcmaeaaGreatDoor
set_option maxRecDepth 100000
set_option linter.unusedVariables false
open Go.RowKit Plain
set_option maxHeartbeats 400000 in
theorem lay_any (g off n cap : Nat) (cur : List Value) (x : Int) (w : World) (hx0 : 0 ≤ x) (hx1 : x ≤ 18446744073709551615) (hn : n ≤ 8) (hg : w.heap[g]? = some (.cells cur.toArray 5 (0, 0))) (hfit : off + n ≤ cur.length) :
    Calls Tryz.prog 105 #[.slice (some ⟨g, off, none⟩) n cap, .int .u64 x] w fun e w' => e = .returned (.tuple #[]) ∧ w'.heap[g]? = some (.cells (splice cur off (bys x n)).toArray 5 (0, 0)) ∧ w.grownBy w' (some g) ∧ w'.heap.size = w.heap.size := by
  go_enter Tryz.func105, Tryz.ntmps105
  go_wp2
  go_loopw [7] (fun i wr => ∃ k : Nat, k ≤ n ∧ i = .int .i64 k ∧ wr.heap[g]? = some (.cells (splice cur off (bys x k)).toArray 5 (0, 0)) ∧ w.grownBy wr (some g) ∧ wr.heap.size = w.heap.size) (fun i _ => n - (intOf i).toNat)
  case atStart => exact ⟨0, Nat.zero_le _, rfl, by rw [bys_zero, splice_nil]; exact hg, World.grownBy.refl _ _, rfl⟩
  case round =>
    obtain ⟨k, hk, rfl, hg', hgr, hsz⟩ := hrel
    by_cases hlt : k < n
    · have hf : wr.frozen? ⟨g, off + k, none⟩ = false := frozen_of_row wr g (off + k) _ 5 hg'
      obtain ⟨v, hc⟩ := cell_row wr g (off + k) _ 5 hg' (by rw [length_splice _ _ _ (by rw [length_bys]; omega)]; omega)
      have R := lay_step w wr g off k cur x (by omega) hg' hgr hsz
      go_wp2
      go_roundw
      case rel => exact ⟨k + 1, by omega, by go_num, R⟩
      case measure => simp [intOf]; omega
    · obtain rfl : k = n := by omega
      go_wp2
      go_end0
      exact ⟨rfl, hg', hgr, hsz⟩
set_option maxHeartbeats 400000 in
theorem get_ok (a : Option Addr) (len cap : Nat) (L : List Int) (p n : Nat) (w : World) (hb : Bytes w a len L) (hl : len ≤ maxLen) (hn1 : 1 ≤ n) (hn2 : n ≤ 8) (hp : p + n ≤ len) :
    Calls Tryz.prog 85 #[.slice a len cap, .int .i64 p, .int .i64 n] w fun e w' => e = .returned (.tuple #[.int .u64 (num L p n), .int .i64 0]) ∧ w = w' := by
  obtain ⟨hL, hz, hc⟩ := hb
  obtain ⟨b, off, rfl, hlt, hc⟩ := hc (by omega)
  have hl' := hl
  unfold maxLen at hl'
  go_enter Tryz.func85, Tryz.ntmps85
  go_wp2_with (go_at_call 108; refine (check_ok _ _ _ _ _ _ (by omega) (by omega) hl (by omega) (by omega)).mono ?_; rintro e w' ⟨rfl, rfl⟩)
  go_loop [9, 19] (fun t i => ∃ k : Nat, k ≤ n ∧ i = .int .i64 k ∧ t = .int .u64 (num L p k)) (fun _ i => n - (intOf i).toNat)
  case atStart => exact ⟨0, Nat.zero_le _, rfl, rfl⟩
  case round =>
    obtain ⟨k, hk, rfl, rfl⟩ := hrel
    by_cases hlt : k < n
    · have hck := hc (p + k) (by omega)
      have hzk := hz (p + k)
      have hs : num L p (k + 1) = num L p k + L.getD (p + k) 0 * 2 ^ (8 * k) := rfl
      generalize L.getD (p + k) 0 = z at hck hzk hs
      have hnb := num_bd L p hz k
      generalize num L p k = t at hnb hs
      have HS : Hid (bits .or .u64 t (IntKind.u64.wrap (z * 2 ^ (8 * k))) = num L p (k + 1)) := by rw [hs]; exact or_step k (by omega) t z hnb hzk
      clear hc hz hs
      go_wp2
      go_round
      case rel => exact ⟨k + 1, by omega, by go_num, by rw [HS.out]⟩
      case measure => simp [intOf]; omega
    · obtain rfl : k = n := by omega
      go_wp2
      go_ret2
      exact ⟨rfl, rfl⟩
end Go.Proofs.YthbbijaikcmaeaaGreatDoor
namespace Go.Proofs.YthbbijaikcmaeaaGreatDoor
set_option maxRecDepth 100000
set_option linter.unusedVariables false
open Go.RowKit Plain
theorem Tryz.info5 : (Tryz.prog.info? 5).map (fun i => (i.zero, i.size, i.bytes)) = some (some (.int .u8 0), 1, 1) := by kernel_rfl
theorem splice_full (n : Nat) (x : Int) : splice (List.replicate n (Value.int .u8 0)) 0 (bys x n) = bys x n := by
  have := length_bys x n
  simp [splice, this]
set_option maxHeartbeats 400000 in
theorem put_ok (x : Int) (n : Nat) (w : World) (hx0 : 0 ≤ x) (hx1 : x ≤ 18446744073709551615) (h1 : 1 ≤ n) (h2 : n ≤ 8) :
    Calls Tryz.prog 80 #[.int .u64 x, .int .i64 n] w fun e w' => ∃ g, e = .returned (.slice (some ⟨g, 0, none⟩) n n) ∧ Out w w' (some ⟨g, 0, none⟩) n n (bytesOf x n) := by
  obtain ⟨i0, hi, hz0, hz1, hz2⟩ := info_parts Tryz.info5
  go_enter Tryz.func80, Tryz.ntmps80
  go_wp2_with (first | (go_at_call 104; refine (fits_yes _ _ (by omega) (by omega)).mono ?_; rintro e w' ⟨rfl, rfl⟩) | (at_make; refine wpList_make_full _ rfl (.tmp 9) (.tmp 9) 38 rfl _ 5 i0 (.int .u8 0) 1 Tryz.underlying38 hi hz0 hz1 _ _ _ _ n rfl rfl rfl rfl (by rw [hz2]; omega) (by unfold maxLen; omega) (Nat.le_refl _) ?_; intro w1 hown hgrow; have HR := made_row hown; clear hown))
  refine (lay_any _ 0 n n _ x _ hx0 hx1 h2 HR (by simp)).mono ?_
  rintro e w2 ⟨rfl, hr, hgr, _⟩
  rw [splice_full] at hr
  have hbl := ((Below.refl w.heap.size w).grown hgrow (Nat.le_refl _) (by simp)).grown hgr hgrow.size (by simp)
  clear HR hgrow hgr
  go_wp2
  go_ret
  exact ⟨_, rfl, Out.of_row (length_bytesOf x n) (by unfold maxLen; omega) (Nat.le_refl _) hr hbl⟩
end Go.Proofs.YthbbijaikcmaeaaGreatDoor
namespace Go.Proofs.YthbbijaikcmaeaaGreatDoor.Seq
set_option maxRecDepth 100000
open Go.RowKit
section
variable {P : Program} {md : Region.Mode} {ops : Array Oper} {Q : Exit → Act → World → Prop} {S S' : World → Prop}
def Lat (w0 : World) : World → Prop := fun w' => Below w0.heap.size w0 w'
theorem into (hS : ∀ w, S' w → S w) : ∀ (fuel : Nat) (listed : Array Bool) (a : Act) (w : World), wpAnyH P md ops Q S' fuel listed a w → wpAnyH P md ops Q S fuel listed a w
  | 0, _, _, _, h => h
  | fuel + 1, _, _, _, h => ⟨h.1, fun i hi => wpOp_mono (fun a' w' h' => ⟨hS _ h'.1, into hS fuel _ a' w' h'.2⟩) (h.2 i hi)⟩
theorem begin_lat {id : Nat} {a : Act} {w : World} (hm : P.follows .mixedOrders = true)
    (h : wpAnyH P .any ops Q (Lat w.drew) ops.size (Array.replicate ops.size false) a w.drew) : (Code.region id ops true).wp P Q a w :=
  wp_region_held_drew (S := Lat w.drew) hm (Below.refl _ _) (fun _ => h)
theorem begin_any {id : Nat} {a : Act} {w : World} (hm : P.follows .mixedOrders = true)
    (h : ∀ wd, Below w.heap.size w wd → wpAnyH P .any ops Q (Lat wd) ops.size (Array.replicate ops.size false) a wd) : (Code.region id ops true).wp P Q a w :=
  begin_lat hm (h _ (Below.refl _ _).drew)
theorem take_lat {i : Nat} {oi : Oper} {v : Value} {fuel : Nat} {listed : Array Bool} {a : Act} {w : World} (hi : ops[i]? = some oi)
    (hs : Region.noSelect ops = true) (hf : Region.free md ops listed i = true) (hr : (Region.ready md ops listed).contains i = true)
    (hQ : ∀ c a w, Q (.panic c) (a.put oi.dst v) w → Q (.panic c) a w) (hw : Region.wanted oi (yielded ops a.tmps) = true)
    (hv : ∀ w', Lat w w' → (execOp a.eval oi).run P w' = .ok (.value v) w')
    (h : wpAnyH P md ops Q (Lat w) fuel (listed.setIfInBounds i true) (a.put oi.dst v) w) : wpAnyH P md ops Q (Lat w) (fuel + 1) listed a w :=
  wpAnyH_take hi hs hf hr hQ (Or.inl ⟨hw, hv⟩) (Below.refl _ _) h
theorem only_lat {i : Nat} {o : Oper} {fuel : Nat} {listed : Array Bool} {a : Act} {w : World} (ho : ops[i]? = some o) (hr : Region.ready md ops listed = [i])
    (h : ∀ K' : Act → World → Prop, Shut (∀ a w1, Below w.heap.size w w1 → wpAnyH P md ops Q (Lat w1) fuel (listed.setIfInBounds i true) a w1 → K' a w1) → if Region.wanted o (yielded ops a.tmps) = true then Oper.wp P o a w K' Q else K' (a.put o.dst undef) w) :
    wpAnyH P md ops Q (Lat w) (fuel + 1) listed a w := by
  refine wpAnyH_ready hr (by simp) (AllReadyH.cons ho (fun K' hK => h K' ?_) AllReadyH.nil)
  intro a1 w1 hb hn
  exact hK.out a1 w1 hb (fun _ => into (fun w' hl => hb.trans (hl.mono hb.size)) _ _ _ _ hn)
end
end Go.Proofs.YthbbijaikcmaeaaGreatDoor.Seq
