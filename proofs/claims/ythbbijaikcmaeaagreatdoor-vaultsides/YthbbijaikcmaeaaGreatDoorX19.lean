/-
  What the Go function Put of package tree answers, for every node. And what follows it.
-/
import Derived.Test.YthbbijaikcmaeaaGreatDoorX18
namespace Go.Proofs.YthbbijaikcmaeaaGreatDoor
set_option maxRecDepth 100000
set_option linter.unusedVariables false
set_option maxRecDepth 100000
open Go.RowKit Plain
theorem nc_split {N : List Rf} (k : Nat) (hk : k < N.length) : nc N = nc (N.take k) ++ (rc N[k] ++ nc (N.drop (k + 1))) := by
  have e : N.take k ++ (N[k] :: N.drop (k + 1)) = N := by rw [← List.drop_eq_getElem_cons hk, List.take_append_drop]
  have e2 := congrArg nc e
  rw [nc_app, nc] at e2
  exact e2.symm
theorem okN_take {N : List Rf} (h : OkN N) (k : Nat) : OkN (N.take k) := fun r hr => h r (List.mem_of_mem_take hr)
theorem ext_n {N : List Rf} (h : OkN N) (k : Nat) (hk : k < N.length) : (na N).extract (k * 33) (k * 33 + 33) = ra N[k] := by
  have hl := len_nc (okN_take h k)
  have hr := len_rc (h.get k hk)
  rw [List.length_take, Nat.min_eq_left (Nat.le_of_lt hk)] at hl
  apply Array.toList_inj.1
  simp only [na, ra, List.extract_toArray, List.extract_eq_take_drop, Nat.add_sub_cancel_left]
  rw [nc_split k hk, List.drop_append_of_le_length (by omega), List.drop_of_length_le (by omega), List.nil_append, List.take_append_of_le_length (by omega), List.take_of_length_le (by omega)]
theorem index_row_row {P : Program} {t el : TypeId} {n s : Nat} {d : TypeDesc} {cs : Array Value} (hu : P.underlying t = some (.array n el)) (he : P.underlying el = some d) (hd : d.isRow = true) (hs : (P.info? el).map (·.size) = some s) (k : Nat) (hk : k < n) (w : World) :
    (Instr.index t (.agg cs) (.int .i64 k)).run P w = .ok (.agg (cs.extract (k * s) (k * s + s))) w := by
  cases hq : P.info? el with
  | none => simp [hq] at hs
  | some i =>
    have hs1 : i.size = s := by simpa [hq] using hs
    have hagg : (isAgg el).run P w = .ok true w := by
      unfold isAgg
      rw [Sem.run_bind, run_underlying he w]
      cases d <;> simp_all [TypeDesc.isRow]
    have hc : (0 : Int) ≤ (k : Int) ∧ (k : Int) < (n : Int) := by omega
    simp [Instr.index, asIntOf, Sem.run_bind, run_underlying hu, hc, sizeOf, typeInfo, hq, hs1, part, hagg]
    intro hc2; omega
theorem index_n {N : List Rf} (h : OkN N) (h4 : N.length = 4) (k : Nat) (hk : k < 4) (w : World) : (Instr.index 107 (.agg (na N)) (.int .i64 k)).run Tryz.prog w = .ok (.agg (ra (N[k]'(by omega)))) w := by
  rw [index_row_row Tryz.underlying107 Tryz.underlying36 rfl infoR k hk w, ext_n h k (by omega)]
theorem put8 (x : Int) (w : World) (hx : N64 x) :
    Calls Tryz.prog 80 #[.int .u64 x, .int .i64 8] w fun e w' => ∃ g, e = .returned (.slice (some ⟨g, 0, none⟩) 8 8) ∧ Bytes w' (some ⟨g, 0, none⟩) 8 (bytesOf x 8) ∧ Below w.heap.size w w' :=
  (put_ok x 8 w hx.1 hx.2 (by omega) (by omega)).mono fun e w' ⟨g, he, ho⟩ => ⟨g, he, ho.bytes (bytesOf_bd _ 8), ho.2.2⟩
def Pu (w1 wr : World) (B : Nat) (v : Value) (n : Nat) (A : List Int) : Prop :=
  wr.ownsRow B 5 1 v n (A.map (Value.int .u8)) ∧ Below B w1 wr ∧ B ≤ wr.heap.size
theorem Pu.below {w1 wr w' : World} {B n : Nat} {v : Value} {A : List Int} (h : Pu w1 wr B v n A) (hb : Below wr.heap.size wr w') : Pu w1 w' B v n A :=
  ⟨own_later h.1 hb, h.2.1.trans (hb.mono h.2.2), Nat.le_trans h.2.2 hb.size⟩
theorem Pu.app {w1 wr w' : World} {B n m : Nat} {v v' : Value} {A L : List Int} (h : Pu w1 wr B v n A) (hw : Box (w'.ownsRow B 5 1 v' (n + m) ((A ++ L).map (Value.int .u8)) ∧ Below B wr w' ∧ B ≤ w'.heap.size)) : Pu w1 w' B v' (n + m) (A ++ L) :=
  ⟨hw.out.1, h.2.1.trans hw.out.2.1, hw.out.2.2⟩
theorem nb_snoc {N : List Rf} (k : Nat) (hk : k < N.length) : nb (N.take (k + 1)) = nb (N.take k) ++ N[k].d ++ bytesOf N[k].s 8 := by
  rw [List.take_add_one, List.getElem?_eq_getElem hk, nb_app]
  simp [nb, rb, List.append_assoc]
theorem wpList_appT {ops : Array Oper} {rest : List Oper} {o : Oper} {act : Act} {w : World} {Q : Exit → Act → World → Prop} (hgd : o.guard = none) (s x : Operand)
    (ho : o.op = .call { callee := .builtin .append, args := #[s, x], argTypes := #[38, 38] }) (base n m c : Nat) (v : Value) (A L : List Int) (a : Option Addr) (w0 : World)
    (hs : act.eval s = v) (hx : act.eval x = .slice a m c) (hown : w.ownsRow base 5 1 v n (A.map (Value.int .u8))) (hb : Bytes w a m L) (hl : n + m ≤ 140737488355328) (hbel : Below base w0 w) (hbase : base ≤ w.heap.size)
    (h : ∀ v' w', Box (w'.ownsRow base 5 1 v' (n + m) ((A ++ L).map (Value.int .u8)) ∧ Below base w0 w' ∧ base ≤ w'.heap.size) → (∀ (G : Nat) (cs : Array Value) (t : TypeId) (fr : Nat × Nat), t ≠ 5 → w.heap[G]? = some (.cells cs t fr) → w'.heap[G]? = some (.cells cs t fr)) → wpList Tryz.prog ops Q rest (act.put o.dst v') w') : wpList Tryz.prog ops Q (o :: rest) act w := by
  obtain ⟨i0, hi, hz0, hz1, hz2⟩ := info_parts info5
  cases a with
  | none =>
    have hm : m = 0 := by
      by_cases hm : m = 0
      · exact hm
      · obtain ⟨_, _, he, _⟩ := hb.2.2 (by omega)
        cases he
    subst hm
    obtain rfl : L = [] := List.eq_nil_of_length_eq_zero hb.1
    refine wpList_plain hgd fun _ hK => ?_
    unfold Oper.wp execOp
    simp only [ho, resolve, invoke, builtin, Sem.run_bind, Sem.run_pure, Result.andThen_ok, List.map_toArray, List.map_cons, List.map_nil, hs, hx, run_append_none hown]
    exact hK _ _ (h v w ⟨by simpa using hown, hbel, hbase⟩ (fun _ _ _ _ _ hG => hG))
  | some ad =>
    refine wpList_append_own w hgd s x 38 ho base 5 i0 (.int .u8 0) 1 1 Tryz.underlying38 hi hz0 hz1 hz2 rfl (by decide) v n _ hs hown ad m c (L.map (Value.int .u8)) hx (by simp [hb.1]) (bytes_news hb) (ints_oneCell _ _) (by unfold maxLen; omega) (by omega) hbase ?_
    intro v' w' h1 h2 _
    have hz := h2.size
    refine h v' w' ⟨by rw [List.map_append]; exact h1, hbel.grown h2 hbase (own_block_le hown), by omega⟩ (fun G cs t fr ht hG => ?_)
    have hlt := (Array.getElem?_eq_some_iff.1 hG).1
    rw [h2.block G hlt ?_]
    · exact hG
    · intro e
      rcases hown.2 with ⟨rfl, _⟩ | ⟨g, cap', cur, rfl, _, hh, _⟩
      · cases e
      · have e' : G = g := by simpa [Value.ownBlock] using e
        subst e'
        rw [hG] at hh
        simp only [Option.some.injEq, Obj.cells.injEq] at hh
        exact ht hh.2.1
theorem getD_is {N : List Rf} (k : Nat) (hk : k < N.length) : N.getD k zr = N[k] := by simp [List.getD, hk]
set_option maxRecDepth 20000 in
set_option maxHeartbeats 1000000 in
theorem tput_any (N : List Rf) (w : World) (hN : OkN N) (h4 : N.length = 4) : Calls Tryz.prog 81 #[.agg (na N)] w fun e w' => ∃ a cap, e = .returned (.slice a 160 cap) ∧ Bytes w' a 160 (nb N) ∧ 160 ≤ cap ∧ cap ≤ maxLen ∧ Below w.heap.size w w' := by
  obtain ⟨i0, hi, hz0, hz1, hz2⟩ := info_parts info5
  obtain ⟨S, hS⟩ : ∃ S, w.heap.size = S := ⟨_, rfl⟩
  have HS : Box (w.heap.size = S) := ⟨hS⟩
  have HN : Box (OkN N ∧ N.length = 4) := ⟨hN, h4⟩
  have HX : Box (∀ k : Nat, k < 4 → (∀ x, (Instr.index 107 (.agg (na N)) (.int .i64 k)).run Tryz.prog x = .ok (.agg (ra (N.getD k zr))) x) ∧ OkR (N.getD k zr) ∧ nb (N.take (k + 1)) = nb (N.take k) ++ (N.getD k zr).d ++ bytesOf (N.getD k zr).s 8) := ⟨fun k hk => by
    have hk' : k < N.length := by omega
    rw [getD_is k hk']
    exact ⟨fun x => index_n hN h4 k hk x, hN.get k hk', nb_snoc k hk'⟩⟩
  have H1 : Box ((w.alloc (.cells (na N) 107)).heap[S]? = some (.cells (na N) 107 (0, 0)) ∧ (w.alloc (.cells (na N) 107)).heap.size = S + 1 ∧ Below S w (w.alloc (.cells (na N) 107)) ∧ (nc N).length = 132) := ⟨al_at hS, by simp [hS], (Below.refl _ _).alloc (by omega) _, by rw [len_nc hN, h4]⟩
  clear hS hN h4
  go_enter Tryz.func81, Tryz.ntmps81
  go_upto_region 1 with fail
  rw [HS.out]
  generalize w.alloc (.cells (na N) 107) = w1 at H1 ⊢
  have M2 : ∀ w2 : World, w2.ownsRow (S + 1) 5 1 (.slice (some ⟨w1.heap.size, 0, none⟩) 0 160) 0 [] → w1.grownBy w2 none → Box (Pu w1 w2 (S + 1) (.slice (some ⟨w1.heap.size, 0, none⟩) 0 160) 0 [] ∧ w2.heap[S]? = some (.cells (na N) 107 (0, 0))) := fun w2 hown hgr => by
    have hb : Below (S + 1) w1 w2 := (Below.refl _ _).grown hgr (by rw [H1.out.2.1]; exact Nat.le_refl _) (by simp)
    exact ⟨⟨hown, hb, by have := hgr.size; rw [H1.out.2.1] at this; exact this⟩, (hb.block S (by omega)).trans H1.out.1⟩
  go_upto_region 2 with (at_make; refine wpList_make_own _ rfl _ _ 38 rfl (S + 1) 5 i0 (.int .u8 0) 1 Tryz.underlying38 hi hz0 hz1 .i64 .i64 160 160 rfl rfl rfl (by rw [hz2]; decide) (by decide) (by rw [H1.out.2.1]; exact Nat.le_refl _) ?_; intro w2 hown hgr; have H2 := M2 w2 hown hgr; clear hown hgr M2)
  generalize w1.heap.size = g2 at H2 ⊢
  have HR : Box (w2.rangeAt S 0 (nc N) ∧ (nc N).length = 132) := ⟨range_arr H2.out.2 (nc N) (fun j v hv => by rw [Nat.zero_add, na, List.getElem?_toArray]; exact hv), H1.out.2.2.2⟩
  have HB : Box (Below S w w1) := ⟨H1.out.2.2.1⟩
  go_wp2_with (first | (refine wpList_load_mid rfl 107 _ rfl S 0 rfl (nc N) _ HR.out.1 Tryz.underlying107 rfl (by rw [HR.out.2]; exact infoN) ?_))
  have HA : Box ((nc N).toArray = na N) := ⟨rfl⟩
  rw [HA.out]
  clear HR H1 HA
  go_loopw [3, 8] (fun v i wr => ∃ k : Nat, k ≤ 4 ∧ i = .int .i64 k ∧ Box (Pu w1 wr (S + 1) v (k * 40) (nb (N.take k)))) (fun _ i _ => 4 - (intOf i).toNat)
  case atStart => exact ⟨0, by omega, rfl, ⟨H2.out.1⟩⟩
  case round =>
    obtain ⟨k, hk, rfl, HP⟩ := hrel
    clear H2
    by_cases hlt : k < 4
    · obtain ⟨hix, h1, h2⟩ := HX.out k hlt
      have HL : Box (OkR (N.getD k zr) ∧ nb (N.take (k + 1)) = nb (N.take k) ++ (N.getD k zr).d ++ bytesOf (N.getD k zr).s 8) := ⟨h1, h2⟩
      clear h1 h2
      generalize N.getD k zr = r at hix HL
      have HZ : Box ((ra r).size = 33 ∧ (ra zr).size = 33) := ⟨size_ra HL.out.1, size_ra okR_zr⟩
      have HM : Box (k * 40 + 32 ≤ 140737488355328 ∧ k * 40 + 32 + 8 ≤ 140737488355328) := ⟨by omega, by omega⟩
      have hst := HL.out.1.hs
      go_upto_region 5 with (first
        | (refine wpList_store_row rfl 36 _ _ rfl wr.heap.size (ra r) rfl rfl 36 (ra zr) (al_at rfl) (by rw [HZ.out.1]; exact infoR) (by rw [HZ.out.1, HZ.out.2]) (all_ra r) ?_)
        | (refine wpList_run rfl _ _ (exec_alloc 36 rfl _ zeroR) ?_))
      have H3 : Box (Pu w1 ((wr.alloc (.cells (ra zr) 36)).setRow wr.heap.size (ra r)) (S + 1) u3 (k * 40) (nb (N.take k)) ∧ LiesR ((wr.alloc (.cells (ra zr) 36)).setRow wr.heap.size (ra r)) wr.heap.size r) := ⟨HP.out.below (below_setRow ((Below.refl _ _).alloc (Nat.le_refl _) _) (Nat.le_refl _) _), setRow_heap _ _ _ _ _ _ (al_at rfl)⟩
      generalize (wr.alloc (.cells (ra zr) 36)).setRow wr.heap.size (ra r) = w3 at H3 ⊢
      generalize wr.heap.size = G at H3 ⊢
      clear HP hix
      simp only [Act.put, List.setIfInBounds_toArray, List.set_cons_zero, List.set_cons_succ]
      go_upto_region 6 with (first | (at_builtin; refine wpList_appT rfl (.tmp 11) (.tmp 13) rfl (S + 1) (k * 40) 32 32 _ (nb (N.take k)) r.d _ w3 rfl rfl H3.out.1.1 (H3.out.2.sum HL.out.1) HM.out.1 (Below.refl _ _) H3.out.1.2.2 ?_; intro v4 w4 h4 h4'; have H4 : Box (Pu w1 w4 (S + 1) v4 (k * 40 + 32) (nb (N.take k) ++ r.d) ∧ LiesR w4 G r) := ⟨H3.out.1.app h4, h4' G _ _ _ (by decide) H3.out.2⟩; clear h4 h4'))
      have hc : w4.cell? ⟨G, 32, none⟩ = some (.int .u64 r.s) := H4.out.2.stamp HL.out.1
      clear H3
      generalize r.s = z at hc hst HL
      go_wp2_with (first
        | (go_at_call 80; refine Calls.mono (put8 z _ hst) ?_; rintro e w5 ⟨g5, rfl, hB, hb⟩; have H5 : Box (Pu w1 w5 (S + 1) v4 (k * 40 + 32) (nb (N.take k) ++ r.d) ∧ Bytes w5 (some ⟨g5, 0, none⟩) 8 (bytesOf z 8)) := ⟨H4.out.1.below hb, hB⟩; clear hB hb hc)
        | (at_builtin; refine wpList_app rfl (.tmp 15) (.tmp 18) rfl (S + 1) (k * 40 + 32) 8 8 _ (nb (N.take k) ++ r.d) (bytesOf z 8) _ w5 rfl rfl H5.out.1.1 H5.out.2 HM.out.2 (Below.refl _ _) H5.out.1.2.2 ?_; intro v6 w6 h6; have H6 : Box (Pu w1 w6 (S + 1) v6 (k * 40 + 32 + 8) (nb (N.take k) ++ r.d ++ bytesOf z 8)) := ⟨H5.out.1.app h6⟩; clear h6 H5))
      go_roundw
      case rel => exact ⟨k + 1, by omega, by go_num, ⟨by rw [HL.out.2, show (k + 1) * 40 = k * 40 + 32 + 8 by omega]; exact H6.out⟩⟩
      case measure => simp [intOf]; omega
    · obtain rfl : k = 4 := by omega
      have e4 : N.take 4 = N := List.take_of_length_le (by rw [HN.out.2]; exact Nat.le_refl _)
      rw [e4] at HP
      obtain ⟨a5, c5, rfl⟩ := own_form HP.out.1
      go_wp2
      go_ret
      refine ⟨a5, c5, rfl, own_bytes HP.out.1 (byt_nb HN.out.1), (own_cap HP.out.1).1, (own_cap HP.out.1).2, ?_⟩
      rw [HS.out]
      exact HB.out.trans (HP.out.2.1.mono (by omega))
end Go.Proofs.YthbbijaikcmaeaaGreatDoor
namespace Go.Proofs.YthbbijaikcmaeaaGreatDoor
set_option maxRecDepth 100000
set_option linter.unusedVariables false
open Go.RowKit Plain
theorem slice_mid (a : Option Addr) (len cap lo hi : Nat) (h1 : lo ≤ hi) (hn : hi ≤ len) (hc : len ≤ cap) : ∃ a', (∀ x, (Instr.sliceAt 38 (.slice a len cap) (some (.int .i64 (lo : Int))) (some (.int .i64 (hi : Int))) none).run Tryz.prog x = .ok (.slice a' (hi - lo) (cap - lo)) x) ∧ ∀ x B, Bytes x a len B → Bytes x a' (hi - lo) ((B.take hi).drop lo) := by
  refine ⟨if cap = lo then a else a.map (·.add (lo * 1)), fun x => ?_, fun x B hB => ?_⟩
  · have hu : Tryz.prog.underlying 38 = some (.slice (Tryz.prog.elem 38)) := by kernel_rfl
    rw [run_sliceAt_slice (P := Tryz.prog) x 38 _ _ _ _ hu, run_slice_lh (P := Tryz.prog) x 38 a len cap hu .i64 .i64 (lo : Int) (hi : Int) (by omega) (by omega) (by omega)]
    have hs : (sizeOf (Tryz.prog.elem 38)).run Tryz.prog x = .ok 1 x := by kernel_rfl
    rw [hs, Result.andThen_ok, sliced]
    simp
  · refine ⟨by rw [List.length_drop, List.length_take, hB.1]; omega, byt_drop _ lo (byt_take B hi hB.2.1), fun hp => ?_⟩
    obtain ⟨b, off, rfl, hlt, hcl⟩ := hB.2.2 (by omega)
    rw [if_neg (by omega)]
    refine ⟨b, off + lo, by simp [Addr.add_mid], hlt, fun i hi' => ?_⟩
    rw [Nat.add_assoc, hcl (lo + i) (by omega)]
    simp [List.getD, List.getElem?_drop, show lo + i < hi by omega]
theorem nc_set {N : List Rf} (k : Nat) (hk : k < N.length) (r : Rf) : nc (N.set k r) = nc (N.take k) ++ (rc r ++ nc (N.drop (k + 1))) := by
  have hk' : k < (N.set k r).length := by simpa using hk
  rw [nc_split k hk', List.take_set_of_le (Nat.le_refl _), List.drop_set_of_lt (by omega), List.getElem_set_self]
theorem nc_put_sum {N : List Rf} (h : OkN N) (k : Nat) (hk : k < N.length) (D : List Int) (hD : D.length = 32) : splice (nc N) (k * 33) (D.map (Value.int .u8)) = nc (N.set k ⟨D, N[k].s⟩) := by
  have hl := len_nc (okN_take h k)
  have hd := (h.get k hk).ld
  rw [List.length_take, Nat.min_eq_left (Nat.le_of_lt hk)] at hl
  rw [nc_set k hk, nc_split k hk]
  simp only [splice, List.length_map, hD, rc]
  rw [List.take_append_of_le_length (by omega), List.take_of_length_le (by omega), List.drop_append, List.drop_of_length_le (by omega), List.nil_append, show k * 33 + 32 - (nc (N.take k)).length = 32 by omega, List.append_assoc (N[k].d.map (Value.int .u8)), List.drop_append, List.drop_of_length_le (by simp [hd]), List.nil_append, List.length_map, hd]
  simp
theorem nc_put_stamp {N : List Rf} (h : OkN N) (k : Nat) (hk : k < N.length) (x : Int) : (nc N).set (k * 33 + 32) (.int .u64 x) = nc (N.set k ⟨N[k].d, x⟩) := by
  have hl := len_nc (okN_take h k)
  have hd := (h.get k hk).ld
  rw [List.length_take, Nat.min_eq_left (Nat.le_of_lt hk)] at hl
  rw [nc_set k hk, nc_split k hk]
  simp only [rc]
  rw [List.set_append_right _ _ (by omega), show k * 33 + 32 - (nc (N.take k)).length = 32 by omega, List.append_assoc, List.set_append_right _ _ (by simp [hd]), List.length_map, hd, List.append_assoc]
  rfl
def upN (B : List Int) (k : Nat) : List Rf := ofN B k ++ List.replicate (4 - k) zr
theorem len_upN (B : List Int) (k : Nat) (hk : k ≤ 4) : (upN B k).length = 4 := by simp [upN, len_ofN]; omega
theorem ok_upN (B : List Int) (hB : Byt B) (hl : B.length = 160) (k : Nat) (hk : k ≤ 4) : OkN (upN B k) := by
  intro r hr
  rw [upN, List.mem_append] at hr
  rcases hr with hr | hr
  · exact okN_of B hB k (by omega) r hr
  · rw [(List.mem_replicate.1 hr).2]; exact okR_zr
theorem upN_four (B : List Int) : upN B 4 = ofN B 4 := by simp [upN]
theorem upN_set (B : List Int) (k : Nat) (hk : k < 4) (r : Rf) : (upN B k).set k r = ofN B k ++ r :: List.replicate (3 - k) zr := by
  rw [upN, List.set_append_right _ _ (by rw [len_ofN]; exact Nat.le_refl _), len_ofN, Nat.sub_self, show 4 - k = (3 - k) + 1 by omega, List.replicate_succ, List.set_cons_zero]
theorem upN_succ (B : List Int) (k : Nat) (hk : k < 4) : (upN B k).set k (rfAt B k) = upN B (k + 1) := by
  rw [upN_set B k hk, upN, ofN, List.append_assoc, show 4 - (k + 1) = 3 - k by omega]
  rfl
theorem upN_at (B : List Int) (k : Nat) (hk : k < 4) : (upN B k)[k]'(by rw [len_upN B k (by omega)]; exact hk) = zr := by
  simp [upN, len_ofN]
def LiesN (w : World) (g : Nat) (t : TypeId) (N : List Rf) : Prop := w.heap[g]? = some (.cells (na N) t (0, 0))
theorem LiesN.lt {w : World} {g : Nat} {t : TypeId} {N : List Rf} (h : LiesN w g t N) : g < w.heap.size := (Array.getElem?_eq_some_iff.1 h).1
theorem LiesN.below {w w' : World} {g : Nat} {t : TypeId} {N : List Rf} (h : LiesN w g t N) (hb : Below w.heap.size w w') : LiesN w' g t N := (hb.block g h.lt).trans h
theorem LiesN.on {w w' : World} {g B : Nat} {t : TypeId} {N : List Rf} (h : LiesN w g t N) (hb : Below B w w') (hg : g < B) : LiesN w' g t N := (hb.block g hg).trans h
theorem LiesN.cell {w : World} {g : Nat} {t : TypeId} {N : List Rf} (h : LiesN w g t N) (k : Nat) : w.cell? ⟨g, k, none⟩ = (nc N)[k]? := by
  rw [cell_of_row _ _ _ _ _ _ h, na, List.getElem?_toArray]
theorem LiesN.froz {w : World} {g : Nat} {t : TypeId} {N : List Rf} (h : LiesN w g t N) (k : Nat) : w.frozen? ⟨g, k, none⟩ = false := frozen_of_row _ _ _ _ _ h
theorem LiesN.range {w : World} {g : Nat} {t : TypeId} {N : List Rf} (h : LiesN w g t N) : w.rangeAt g 0 (nc N) := range_arr h (nc N) (fun j v hv => by rw [Nat.zero_add, na, List.getElem?_toArray]; exact hv)
theorem LiesN.sum {w : World} {g : Nat} {t : TypeId} {N : List Rf} (h : LiesN w g t N) (hN : OkN N) (k : Nat) (hk : k < N.length) : Bytes w (some ⟨g, k * 33, none⟩) 32 N[k].d :=
  ⟨(hN.get k hk).ld, (hN.get k hk).bd, fun _ => ⟨g, k * 33, rfl, h.lt, fun i hi => by rw [h.cell, Nat.mul_comm]; exact nc_sum hN k hk i hi⟩⟩
theorem LiesN.stamp {w : World} {g : Nat} {t : TypeId} {N : List Rf} (h : LiesN w g t N) (hN : OkN N) (k : Nat) (hk : k < N.length) : w.cell? ⟨g, k * 33 + 32, none⟩ = some (.int .u64 N[k].s) := by
  rw [h.cell, Nat.mul_comm]; exact nc_stamp hN k hk
theorem LiesN.putSum {w : World} {g : Nat} {t : TypeId} {N : List Rf} (h : LiesN w g t N) (hN : OkN N) (k : Nat) (hk : k < N.length) (D : List Int) (hD : D.length = 32) : LiesN (w.setCells g (k * 33) (u8s D).toList) g t (N.set k ⟨D, N[k].s⟩) := by
  have hl := len_nc hN
  have := setCells_row g t (D.map (Value.int .u8)) (k * 33) (nc N) w h (by rw [List.length_map, hD, hl]; omega)
  unfold LiesN na
  rw [show (u8s D).toList = D.map (Value.int .u8) by simp [u8s], this, nc_put_sum hN k hk D hD]
theorem LiesN.putStamp {w : World} {g : Nat} {t : TypeId} {N : List Rf} (h : LiesN w g t N) (hN : OkN N) (k : Nat) (hk : k < N.length) (x : Int) : LiesN (w.setCell ⟨g, k * 33 + 32, none⟩ (.int .u64 x)) g t (N.set k ⟨N[k].d, x⟩) := by
  unfold LiesN
  rw [heap_setCell_same w g (k * 33 + 32) _ _ _ h, na, List.setIfInBounds_toArray, nc_put_stamp hN k hk x]
  rfl
structure Gn (w wr : World) (S G : Nat) (t : TypeId) (N : List Rf) : Prop where
  res : LiesN wr S t zn
  cel : LiesN wr G t N
  bel : Below S w wr
  lt : S < G
theorem Gn.on {w wr w' : World} {S G : Nat} {t : TypeId} {N : List Rf} (h : Gn w wr S G t N) (hb : Below wr.heap.size wr w') : Gn w w' S G t N :=
  ⟨h.res.below hb, h.cel.below hb, h.bel.trans (hb.mono (Nat.le_of_lt h.res.lt)), h.lt⟩
theorem below_setCells {S g : Nat} {w : World} (hg : S ≤ g) : ∀ (cs : List Value) (o : Nat) {w' : World}, Below S w w' → Below S w (w'.setCells g o cs)
  | [], _, _, h => h
  | v :: r, o, _, h => below_setCells hg r (o + 1) (below_set h hg v)
theorem setCells_other (g k : Nat) (hk : k ≠ g) : ∀ (cs : List Value) (o : Nat) (w : World), (w.setCells g o cs).heap[k]? = w.heap[k]?
  | [], _, _ => rfl
  | v :: r, o, w => by
    rw [World.setCells, setCells_other g k hk r (o + 1), heap_setCell_other w ⟨g, o, none⟩ k _ (fun e => hk e)]
theorem Gn.putSum {w wr : World} {S G : Nat} {t : TypeId} {N : List Rf} (h : Gn w wr S G t N) (hN : OkN N) (k : Nat) (hk : k < N.length) (D : List Int) (hD : D.length = 32) : Gn w (wr.setCells G (k * 33) (u8s D).toList) S G t (N.set k ⟨D, N[k].s⟩) :=
  ⟨(setCells_other G S (Nat.ne_of_lt h.lt) _ _ _).trans h.res, h.cel.putSum hN k hk D hD, below_setCells (Nat.le_of_lt h.lt) _ _ h.bel, h.lt⟩
theorem Gn.putStamp {w wr : World} {S G : Nat} {t : TypeId} {N : List Rf} (h : Gn w wr S G t N) (hN : OkN N) (k : Nat) (hk : k < N.length) (x : Int) : Gn w (wr.setCell ⟨G, k * 33 + 32, none⟩ (.int .u64 x)) S G t (N.set k ⟨N[k].d, x⟩) :=
  ⟨(heap_setCell_other wr ⟨G, k * 33 + 32, none⟩ S _ (by have := h.lt; simp; omega)).trans h.res, h.cel.putStamp hN k hk x, below_set h.bel (Nat.le_of_lt h.lt) _, h.lt⟩
theorem results_N2 {fn : Func} {ty el : TypeId} {n : Nat} {t u : Tmp} (h : fn.results = #[.cell t ty, .tmp u]) (hu : Tryz.prog.underlying ty = some (.array n el)) (hi : (Tryz.prog.info? ty).map (·.size) = some 132) (tmps : Array Value) (w : World) (b : Nat) (N : List Rf) (hN : OkN N) (h4 : N.length = 4) (ht : tmps.getD t undef = .pointer (some ⟨b, 0, none⟩)) (hg : LiesN w b ty N) :
    (results fn tmps).run Tryz.prog w = .ok (.tuple #[.agg (na N), tmps.getD u undef]) w := by
  have hl := run_loadVar_row (P := Tryz.prog) w b _ ty _ _ _ hg hu rfl (by rw [size_na hN h4]; exact hi)
  rw [results_cell_tmp h, ht]
  simp [asAddr, hl]
theorem get8 (a : Option Addr) (cap : Nat) (L : List Int) (p : Nat) (p' : Int) (w : World) (hb : Bytes w a 160 L) (hp : p + 8 ≤ 160) (he : p' = (p : Int)) :
    Calls Tryz.prog 85 #[.slice a 160 cap, .int .i64 p', .int .i64 8] w fun e w' => e = .returned (.tuple #[.int .u64 (num L p 8), .int .i64 0]) ∧ w = w' := by
  subst he
  exact get_ok a 160 cap L p 8 w hb (by decide) (by omega) (by omega) hp
set_option maxRecDepth 20000 in
set_option maxHeartbeats 1000000 in
theorem tget_ok (a : Option Addr) (cap : Nat) (L : List Int) (w : World) (hB : Bytes w a 160 L) (hc : 160 ≤ cap) (hm : cap ≤ 9223372036854775807) : Calls Tryz.prog 62 #[.slice a 160 cap] w fun e w' => e = .returned (.tuple #[.agg (na (ofN L 4)), .int .i64 0]) ∧ Below w.heap.size w w' := by
  obtain ⟨S, hS⟩ : ∃ S, w.heap.size = S := ⟨_, rfl⟩
  have HB : Box (∀ x, Below S w x → Bytes x a 160 L) := ⟨fun x hx => hB.below (by rw [hS]; exact hx)⟩
  have HO : Box (∀ k, k ≤ 4 → OkN (upN L k) ∧ (upN L k).length = 4) := ⟨fun k hk => ⟨ok_upN L hB.2.1 hB.1 k hk, len_upN L k hk⟩⟩
  have HX : Box (∀ k : Nat, k < 4 → ∃ b o, (∀ x, (Instr.sliceAt 38 (.slice a 160 cap) (some (.int .i64 ((k : Int) * 40))) (some (.int .i64 ((k : Int) * 40 + 32))) none).run Tryz.prog x = .ok (.slice (some ⟨b, o, none⟩) 32 (cap - k * 40)) x) ∧ ∀ x, Bytes x a 160 L → Bytes x (some ⟨b, o, none⟩) 32 (rfAt L k).d) := ⟨fun k hk => by
    obtain ⟨a', e, f⟩ := slice_mid a 160 cap (k * 40) (k * 40 + 32) (by omega) (by omega) hc
    have g := f w L hB
    rw [Nat.add_sub_cancel_left] at g
    obtain ⟨b, o, rfl, -, -⟩ := g.2.2 (by omega)
    refine ⟨b, o, fun x => ?_, fun x hx => ?_⟩
    · have := e x
      rw [Nat.add_sub_cancel_left] at this
      rw [← this]
      simp
    · have := f x L hx
      rw [Nat.add_sub_cancel_left] at this
      have e2 : (L.take (k * 40 + 32)).drop (k * 40) = (rfAt L k).d := by
        rw [rfAt, List.drop_take, Nat.add_sub_cancel_left, Nat.mul_comm]
      rwa [e2] at this⟩
  have HW : Box (Gn w ((w.alloc (.cells (na zn) 107)).alloc (.cells (na zn) 107)) S (S + 1) 107 (upN L 0)) := ⟨al_old (al_at hS), al_at (by simp [hS]), by rw [← hS]; exact ((Below.refl _ _).alloc (Nat.le_refl _) _).alloc (by simp) _, by omega⟩
  have HS : Box (w.heap.size = S) := ⟨hS⟩
  clear hB hc hS
  go_enter Tryz.func62, Tryz.ntmps62
  go_upto_region 2 with (refine wpList_run rfl _ _ (exec_alloc 107 rfl _ zeroN) ?_)
  have hs2 : (w.alloc (.cells (na zn) 107)).heap.size = S + 1 := by simp [HS.out]
  (try rw [hs2])
  simp only [HS.out]
  generalize (w.alloc (.cells (na zn) 107)).alloc (.cells (na zn) 107) = w1 at HW ⊢
  go_wp2
  go_loopw [11] (fun i wr => ∃ k : Nat, k ≤ 4 ∧ i = .int .i64 k ∧ Box (Gn w wr S (S + 1) 107 (upN L k))) (fun i _ => 4 - (intOf i).toNat)
  case atStart => exact ⟨0, by omega, rfl, HW⟩
  case round =>
    obtain ⟨k, hk, rfl, HP⟩ := hrel
    clear HW
    by_cases hlt : k < 4
    · obtain ⟨b, o, hsl, hby⟩ := HX.out k hlt
      have HD : Box (Bytes wr (some ⟨b, o, none⟩) 32 (rfAt L k).d) := ⟨hby wr (HB.out wr HP.out.bel)⟩
      have HY : Box (∀ x, (Instr.sliceAt 38 (.slice a 160 cap) (some (.int .i64 ((k : Int) * 40))) (some (.int .i64 ((k : Int) * 40 + 32))) none).run Tryz.prog x = .ok (.slice (some ⟨b, o, none⟩) 32 (cap - k * 40)) x) := ⟨hsl⟩
      clear hby hsl
      go_upto_region 8 with fail
      have HT : Box (Gn w (wr.setCells (S + 1) (k * 33) (u8s (rfAt L k).d).toList) S (S + 1) 107 ((upN L k).set k ⟨(rfAt L k).d, 0⟩) ∧ wr.there (S + 1) (k * 33) (u8s (rfAt L k).d).size ∧ (u8s (rfAt L k).d).size = 32) := by
        have h4 := (HO.out k hk).2
        have hz : (upN L k)[k].s = 0 := by rw [upN_at L k hlt]; rfl
        have := HP.out.putSum (HO.out k hk).1 k (by omega) (rfAt L k).d HD.out.1
        rw [hz] at this
        have h32 : (u8s (rfAt L k).d).size = 32 := by rw [size_u8s, HD.out.1]
        exact ⟨this, there_row HP.out.cel (by rw [h32, size_na (HO.out k hk).1 h4]; omega), h32⟩
      obtain ⟨D, HE⟩ : ∃ D, Box (D = (rfAt L k).d) := ⟨_, ⟨rfl⟩⟩
      rw [← HE.out] at HT HD
      go_upto_region 9 with (first
        | (refine atSlice _ ?_; refine wpList_run rfl _ _ (exec_slice 38 (.tmp 18) (some (.tmp 20)) (some (.tmp 21)) rfl _ (HY.out _)) ?_)
        | (refine atArr _ ?_; refine wpList_run rfl _ _ (exec_arr (.tmp 22) rfl _ (cap - k * 40) rfl) ?_)
        | (refine atLoad _ ?_; refine wpList_run rfl _ _ (exec_sum (.tmp 23) rfl b o rfl _ HD.out) ?_)
        | (refine atStore _ ?_; refine wpList_store_mid rfl 23 (.tmp 26) (.tmp 24) rfl (S + 1) (k * 33) (u8s D) rfl rfl HT.out.2.1 (by rw [HT.out.2.2]; exact infoS) (all_u8s D) ?_))
      have hlen : k < ((upN L k).set k ⟨D, 0⟩).length := by rw [List.length_set, (HO.out k hk).2]; exact hlt
      have HK : Box (OkN ((upN L k).set k ⟨D, 0⟩) ∧ ((upN L k).set k ⟨D, 0⟩)[k] = ⟨D, 0⟩ ∧ ((upN L k).set k ⟨D, 0⟩).set k ⟨D, num L (40 * k + 32) 8⟩ = upN L (k + 1)) := by
        refine ⟨okN_set (HO.out k hk).1 k _ ⟨HD.out.1, HD.out.2.1, ⟨by simp, by simp⟩⟩, by simp, ?_⟩
        rw [List.set_set, HE.out, ← upN_succ L k hlt]
        rfl
      generalize wr.setCells (S + 1) (k * 33) (u8s D).toList = w2 at HT ⊢
      have hc : w2.cell? ⟨S + 1, k * 33 + 32, none⟩ = some (.int .u64 0) := by rw [HT.out.1.cel.stamp HK.out.1 k hlen, HK.out.2.1]
      have hf : w2.frozen? ⟨S + 1, k * 33 + 32, none⟩ = false := HT.out.1.cel.froz _
      have HG : Box (Bytes w2 a 160 L) := ⟨HB.out _ HT.out.1.bel⟩
      have HU : Box (Gn w (w2.setCell ⟨S + 1, k * 33 + 32, none⟩ (.int .u64 (num L (40 * k + 32) 8))) S (S + 1) 107 (upN L (k + 1))) := ⟨by
        have := HT.out.1.putStamp HK.out.1 k hlen (num L (40 * k + 32) 8)
        rw [HK.out.2.1, HK.out.2.2] at this
        exact this⟩
      clear HT HP HD HE HK hlen
      simp only [Act.put]
      go_wp2_with (go_at_call 85; refine Calls.mono (get8 a cap L (40 * k + 32) _ _ HG.out (by omega) (by omega)) ?_; rintro e w5 ⟨rfl, rfl⟩)
      go_roundw
      case rel => exact ⟨k + 1, by omega, by go_num, HU⟩
      case measure => simp [intOf]; omega
    · obtain rfl : k = 4 := by omega
      have h4 := HO.out 4 (by omega)
      rw [upN_four] at HP h4
      have HF : Box (OkN (ofN L 4) ∧ (na (ofN L 4)).size = 132 ∧ (na zn).size = 132 ∧ (nc (ofN L 4)).length = 132 ∧ (ofN L 4).length = 4) := ⟨h4.1, size_na h4.1 h4.2, size_na okN_zn rfl, by rw [len_nc h4.1, h4.2], h4.2⟩
      clear h4 HO HB
      obtain ⟨N, HN⟩ : ∃ N, Box (ofN L 4 = N) := ⟨_, ⟨rfl⟩⟩
      rw [HN.out] at HP HF
      go_wp2_with (first
        | (refine wpList_load_mid rfl 107 _ rfl (S + 1) 0 rfl (nc N) _ HP.out.cel.range Tryz.underlying107 rfl (by rw [HF.out.2.2.2.1]; exact infoN) ?_)
        | (refine wpList_store_row rfl 107 _ _ rfl S (na N) rfl rfl 107 (na zn) HP.out.res (by rw [HF.out.2.1]; exact infoN) (by rw [HF.out.2.1, HF.out.2.2.1]) (all_na N) ?_))
      (try simp only [Exit.inBlock, Exit.then])
      refine bodyPost_ret (results_N2 rfl Tryz.underlying107 infoN _ _ S N HF.out.1 HF.out.2.2.2.2 rfl (setRow_heap _ _ _ _ _ _ HP.out.res)) rfl ?_
      exact ⟨by rw [HN.out]; rfl, by rw [HS.out]; exact below_setRow HP.out.bel (Nat.le_refl _) _⟩
end Go.Proofs.YthbbijaikcmaeaaGreatDoor
namespace Go.Proofs.YthbbijaikcmaeaaGreatDoor
set_option maxRecDepth 100000
set_option linter.unusedVariables false
open Go.RowKit Plain
theorem exec_node {o : Oper} {ρ : Operand → Value} {w' : World} {u t : TypeId} (hu : Tryz.prog.underlying u = some (.array 4 t)) (hi : (Tryz.prog.info? u).map (·.size) = some 132) (x : Operand) (ho : o.op = .load u x) (g : Nat) (hx : ρ x = .pointer (some ⟨g, 0, none⟩)) (N : List Rf) (hN : OkN N) (h4 : N.length = 4) (h : LiesN w' g u N) :
    (execOp ρ o).run Tryz.prog w' = .ok (.value (.agg (na N))) w' :=
  exec_load_mid u _ x ho hu rfl g 0 hx (nc N) (by rw [len_nc hN, h4]; exact hi) h.range
theorem wpList_newN {ops : Array Oper} {rest : List Oper} {o : Oper} {a : Act} {v : World} {Q : Exit → Act → World → Prop} {u : TypeId} (hi : (Tryz.prog.info? u).map (·.size) = some 132) (w : World) (N : List Rf) (hN : OkN N) (h4 : N.length = 4) (hgd : o.guard = none) (x y : Operand) (ho : o.op = .store u x y)
    (hx : a.eval x = .pointer (some ⟨w.heap.size, 0, none⟩)) (hy : a.eval y = .agg (na N)) (hv : v = w.alloc (.cells (na zn) u))
    (h : ∀ z, LiesN z w.heap.size u N → Below w.heap.size w z → wpList Tryz.prog ops Q rest (a.put o.dst undef) z) : wpList Tryz.prog ops Q (o :: rest) a v := by
  subst hv
  have hs := size_na hN h4
  exact wpList_store_row hgd u x y ho w.heap.size (na N) hx hy u (na zn) (al_at rfl) (by rw [hs]; exact hi) (by rw [hs, size_na okN_zn rfl]) (all_na N)
    (h _ (setRow_heap _ _ _ _ _ _ (al_at rfl)) (below_setRow ((Below.refl _ _).alloc (Nat.le_refl _) _) (Nat.le_refl _) _))
def LiesS (w : World) (g : Nat) (X : List Int) : Prop := w.heap[g]? = some (.cells (u8s X) 23 (0, 0))
theorem LiesS.lt {w : World} {g : Nat} {X : List Int} (h : LiesS w g X) : g < w.heap.size := (Array.getElem?_eq_some_iff.1 h).1
theorem LiesS.below {w w' : World} {g : Nat} {X : List Int} (h : LiesS w g X) (hb : Below w.heap.size w w') : LiesS w' g X := (hb.block g h.lt).trans h
end Go.Proofs.YthbbijaikcmaeaaGreatDoor
