/-
  The law's own function refs: a node as the reference has it.
-/
import Derived.Test.YtlbapcpcabieaaaDoorGE
import Derived.Test.YtlbapcpcabieaaaDoorGR
import Derived.OrdersHeld
namespace Go.Proofs.YtlbapcpcabieaaaDoor
set_option linter.unusedVariables false
open Go.RowKit Plain

theorem but_setCells (b : Nat) : ∀ (vs : List Value) (o : Nat) (w0 w : World), But b w0 w → But b w0 (w.setCells b o vs)
  | [], o, w0, w, h => h
  | v :: r, o, w0, w, h => by
    rw [World.setCells]
    exact but_setCells b r (o + 1) w0 _ (h.setCell o v)
theorem but_cell {G : Nat} {w w' : World} (h : But G w w') {a : Addr} {v : Value} (hc : w.cell? a = some v) (hn : a.block ≠ G) : w'.cell? a = some v :=
  (World.cell?_of_block (h.block a.block (World.block_lt_of_cell? w a hc) hn)).trans hc
theorem but_range {G : Nat} {w w' : World} (h : But G w w') {b o : Nat} {cs : List Value} (hc : w.rangeAt b o cs) (hn : b ≠ G) : w'.rangeAt b o cs := fun j v hv => but_cell h (hc j v hv) hn
section
variable {P : Program} {md : Region.Mode} {ops : Array Oper} {Q : Exit → Act → World → Prop}
theorem begin_but (R : Nat) {id : Nat} {a : Act} {w : World} (hm : P.follows .mixedOrders = true) (h : ∀ wd, wd = w.drew → wpAnyH P .any ops Q (But R wd) ops.size (Array.replicate ops.size false) a wd) : (Code.region id ops true).wp P Q a w :=
  wp_region_held (S := But R w.drew) hm (h _ rfl)
theorem take_but {R : Nat} {i : Nat} {oi : Oper} {v : Value} {fuel : Nat} {listed : Array Bool} {a : Act} {w : World} (hi : ops[i]? = some oi)
    (hs : Region.noSelect ops = true) (hf : Region.free md ops listed i = true) (hr : (Region.ready md ops listed).contains i = true)
    (hQ : ∀ c a w, Q (.panic c) (a.put oi.dst v) w → Q (.panic c) a w) (hw : Region.wanted oi (yielded ops a.tmps) = true)
    (hv : ∀ w', But R w w' → (execOp a.eval oi).run P w' = .ok (.value v) w')
    (h : wpAnyH P md ops Q (But R w) fuel (listed.setIfInBounds i true) (a.put oi.dst v) w) : wpAnyH P md ops Q (But R w) (fuel + 1) listed a w :=
  wpAnyH_take hi hs hf hr hQ (Or.inl ⟨hw, hv⟩) (But.refl _ _) h
theorem last_but {R : Nat} {i : Nat} {o : Oper} {fuel : Nat} {listed : Array Bool} {a : Act} {w : World} (ho : ops[i]? = some o) (hr : Region.ready md ops listed = [i]) (hw : Region.wanted o (yielded ops a.tmps) = true) (hd : Region.ready md ops (listed.setIfInBounds i true) = [])
    (t : TypeId) (x y : Operand) (hop : o.op = .store t x y) (off : Nat) (cells : Array Value) (hx : a.eval x = .pointer (some ⟨R, off, none⟩)) (hy : a.eval y = .agg cells) (ht : w.there R off cells.size) (hi : (P.info? t).map (·.size) = some cells.size) (h1 : cells.all (·.oneCell') = true)
    (h : Q .normal (a.put o.dst undef) (w.setCells R off cells.toList)) : wpAnyH P md ops Q (But R w) (fuel + 1) listed a w := by
  refine wpAnyH_all hr (by simp) (fun j hj => ?_)
  simp only [List.mem_cons, List.not_mem_nil, or_false] at hj
  subst hj
  unfold wpOp
  simp only [ho, hw, if_true]
  exact .inl (wp_store_mid t x y hop R off cells hx hy ht hi h1 ⟨but_setCells _ _ _ _ _ (But.refl _ _), wpAnyH_done hd h _⟩)
end
theorem exec_idxM {op : Oper} {ρ : Operand → Value} {w' : World} (x y : Operand) (ho : op.op = .indexAddr 36 x y) (S j : Nat) (hx : ρ x = .pointer (some ⟨S, 0, none⟩)) (hy : ρ y = .int .i64 (j : Int)) (hj : j < 4) :
    (execOp ρ op).run Tryd.prog w' = .ok (.value (.pointer (some ⟨S, j * 33, none⟩))) w' := by
  have hc : (0 : Int) ≤ (j : Int) ∧ (j : Int) < 4 := by omega
  have hs : (sizeOf 35).run Tryd.prog w' = .ok 33 w' := by kernel_rfl
  unfold execOp
  simp [ho, hx, hy, Instr.indexAt, asIntOf, Sem.run_bind, run_underlying Tryd.underlying36, hc, Addr.add_mid, Instr.sureAddr]
  intro hh; omega
theorem nc_put_ref {N : List Rf} (h : OkN N) (k : Nat) (hk : k < N.length) {r : Rf} (hr : OkR r) : splice (nc N) (k * 33) (rc r) = nc (N.set k r) := by
  have hl := len_nc (okN_take h k)
  have h1 := len_rc (h.get k hk)
  have h2 := len_rc hr
  rw [List.length_take, Nat.min_eq_left (Nat.le_of_lt hk)] at hl
  rw [nc_set k hk, nc_split k hk]
  simp only [splice, h2]
  rw [List.take_append_of_le_length (by omega), List.take_of_length_le (by omega), List.drop_append, List.drop_of_length_le (by omega), List.nil_append, show k * 33 + 33 - (nc (N.take k)).length = 33 by omega, List.drop_append, List.drop_of_length_le (by omega), List.nil_append, h1]
  simp
theorem LiesN.putRef {w : World} {g : Nat} {t : TypeId} {N : List Rf} (h : LiesN w g t N) (hN : OkN N) (k : Nat) (hk : k < N.length) {r : Rf} (hr : OkR r) : LiesN (w.setCells g (k * 33) (ra r).toList) g t (N.set k r) := by
  have hl := len_nc hN
  have := setCells_row g t (rc r) (k * 33) (nc N) w h (by rw [len_rc hr, hl]; omega)
  unfold LiesN na
  rw [show (ra r).toList = rc r by simp [ra], this, nc_put_ref hN k hk hr]
/-- The first k refs of a node, and noughts. -/
def cpN (N : List Rf) (k : Nat) : List Rf := N.take k ++ List.replicate (4 - k) zr
theorem len_cpN (N : List Rf) (k : Nat) (h4 : N.length = 4) (hk : k ≤ 4) : (cpN N k).length = 4 := by simp [cpN, h4]; omega
theorem ok_cpN {N : List Rf} (hN : OkN N) (k : Nat) : OkN (cpN N k) := by
  intro r hr
  rw [cpN, List.mem_append] at hr
  rcases hr with hr | hr
  · exact hN r (List.mem_of_mem_take hr)
  · rw [(List.mem_replicate.1 hr).2]; exact okR_zr
theorem cpN_zero (N : List Rf) : cpN N 0 = zn := rfl
theorem cpN_four (N : List Rf) (h4 : N.length = 4) : cpN N 4 = N := by
  simp [cpN]
  exact List.take_of_length_le (by omega)
theorem cpN_succ (N : List Rf) (k : Nat) (h4 : N.length = 4) (hk : k < 4) : (cpN N k).set k (N.getD k zr) = cpN N (k + 1) := by
  have hl : (N.take k).length = k := by rw [List.length_take]; omega
  rw [cpN, List.set_append_right _ _ (by omega), hl, Nat.sub_self, show 4 - k = (3 - k) + 1 by omega, List.replicate_succ, List.set_cons_zero, cpN, List.take_add_one, List.getElem?_eq_getElem (by omega), getD_is k (by omega), show 4 - (k + 1) = 3 - k by omega, List.append_assoc]
  rfl
/-- Where refs stands: the node in block S, noughts for the answer in block S + 1, the copy in block S + 2. -/
structure Rs (w wr : World) (S : Nat) (N M : List Rf) : Prop where
  src : LiesN wr S 28 N
  res : LiesN wr (S + 1) 36 zn
  cel : LiesN wr (S + 2) 36 M
  bel : Below S w wr
theorem Rs.drew {w wr : World} {S : Nat} {N M : List Rf} (h : Rs w wr S N M) : Rs w wr.drew S N M := ⟨h.src, h.res, h.cel, h.bel.drew⟩
theorem Rs.put {w wr : World} {S : Nat} {N M : List Rf} (h : Rs w wr S N M) (hM : OkN M) (k : Nat) (hk : k < M.length) {r : Rf} (hr : OkR r) : Rs w (wr.setCells (S + 2) (k * 33) (ra r).toList) S N (M.set k r) :=
  ⟨(setCells_other (S + 2) S (by omega) _ _ _).trans h.src, (setCells_other (S + 2) (S + 1) (by omega) _ _ _).trans h.res, h.cel.putRef hM k hk hr, below_setCells (by omega) _ _ h.bel⟩
theorem results_N1 {fn : Func} {ty el : TypeId} {n : Nat} {t : Tmp} (h : fn.results = #[.cell t ty]) (hu : Tryd.prog.underlying ty = some (.array n el)) (hi : (Tryd.prog.info? ty).map (·.size) = some 132) (tmps : Array Value) (w : World) (b : Nat) (N : List Rf) (hN : OkN N) (h4 : N.length = 4) (ht : tmps.getD t undef = .pointer (some ⟨b, 0, none⟩)) (hg : LiesN w b ty N) :
    (results fn tmps).run Tryd.prog w = .ok (.agg (na N)) w :=
  results_cell_row h tmps w b ty (na N) (0, 0) _ ht hg hu rfl (by rw [size_na hN h4]; exact hi)

set_option maxRecDepth 20000 in
set_option maxHeartbeats 2000000 in
theorem refs_any (N : List Rf) (w : World) (hN : OkN N) (h4 : N.length = 4) : Calls Tryd.prog 13 #[.agg (na N)] w fun e w' => e = .returned (.agg (na N)) ∧ Below w.heap.size w w' := by
  obtain ⟨S, hS⟩ : ∃ S, w.heap.size = S := ⟨_, rfl⟩
  have HS : Box (w.heap.size = S) := ⟨hS⟩
  have HN : Box (OkN N ∧ N.length = 4) := ⟨hN, h4⟩
  have HX : Box (∀ k, k < 4 → OkR (N.getD k zr) ∧ (cpN N k).set k (N.getD k zr) = cpN N (k + 1) ∧ OkN (cpN N k) ∧ (cpN N k).length = 4 ∧ ∀ x, LiesN x S 28 N → Bytes x (some ⟨S, k * 33, none⟩) 32 (N.getD k zr).d ∧ x.cell? ⟨S, k * 33 + 32, none⟩ = some (.int .u64 (N.getD k zr).s)) := ⟨fun k hk => by
    have hk' : k < N.length := by omega
    refine ⟨?_, cpN_succ N k h4 hk, ok_cpN hN k, len_cpN N k h4 (by omega), ?_⟩
    · rw [getD_is k hk']; exact hN.get k hk'
    · intro x hx
      rw [getD_is k hk']
      exact ⟨hx.sum hN k hk', hx.stamp hN k hk'⟩⟩
  have H1 : Box (Rs w (((w.alloc (.cells (na N) 28)).alloc (.cells (na zn) 36)).alloc (.cells (na zn) 36)) S N (cpN N 0)) := by
    have b := (Below.refl w.heap.size w).alloc (Nat.le_refl _) (.cells (na N) 28)
    rw [hS] at b
    have b2 := (b.alloc (by simp [hS]) (.cells (na zn) 36)).alloc (by simp [hS]; omega) (.cells (na zn) 36)
    exact ⟨⟨al_old (al_old (al_at hS)), al_old (al_at (by simp [hS])), al_at (by simp [hS]), b2⟩⟩
  clear hS hN h4
  go_enter Tryd.func13, Tryd.ntmps13
  go_upto_region 2 with (refine wpList_run rfl _ _ (exec_alloc 36 rfl _ zeroM) ?_)
  have hs2 : (w.alloc (.cells (na N) 28)).heap.size = S + 1 := by simp [HS.out]
  have hs3 : ((w.alloc (.cells (na N) 28)).alloc (.cells (na zn) 36)).heap.size = S + 2 := by simp [HS.out]
  (try rw [hs3])
  (try rw [hs2])
  (try simp only [HS.out])
  generalize ((w.alloc (.cells (na N) 28)).alloc (.cells (na zn) 36)).alloc (.cells (na zn) 36) = w1 at H1 ⊢
  clear hs2 hs3
  go_wp2
  go_loopw [4] (fun i wr => ∃ k : Nat, k ≤ 4 ∧ i = .int .i64 k ∧ Box (Rs w wr S N (cpN N k))) (fun i _ => 4 - (intOf i).toNat)
  case atStart => exact ⟨0, by omega, rfl, H1⟩
  case round =>
    obtain ⟨k, hk, rfl, HP⟩ := hrel
    clear H1
    by_cases hlt : k < 4
    · obtain ⟨o1, o2, o3, o4, o5⟩ := HX.out k hlt
      have HL : Box (∀ x, But (S + 2) wr.drew x → Bytes x (some ⟨S, k * 33, none⟩) 32 (N.getD k zr).d ∧ x.cell? ⟨S, k * 33 + 32, none⟩ = some (.int .u64 (N.getD k zr).s)) := ⟨fun x hx => o5 x ((hx.block S HP.out.src.lt (by omega)).trans HP.out.src)⟩
      have HK : Box (OkR (N.getD k zr)) := ⟨o1⟩
      have HW : Box (wr.drew.there (S + 2) (k * 33) (ra (N.getD k zr)).size) := ⟨there_row HP.out.drew.cel (by rw [size_ra o1, size_na o3 o4]; omega)⟩
      have HT : Box (Rs w (wr.drew.setCells (S + 2) (k * 33) (ra (N.getD k zr)).toList) S N (cpN N (k + 1))) := ⟨by rw [← o2]; exact HP.out.drew.put o3 k (by omega) o1⟩
      clear o1 o2 o3 o4 o5 HP HX
      generalize N.getD k zr = q at HL HK HW HT
      go_upto_region 5 with fail
      refine begin_but (S + 2) (by kernel_rfl) (fun wd hwd => ?_)
      subst hwd
      refine take_but (i := 0) (v := ?_) rfl (by kernel_rfl) (by kernel_rfl) (by kernel_rfl) (fun _ _ _ h => h) (by rfl) ?_ ?_
      rotate_left
      · intro w' hB; clear hB; go_simp <;> with_reducible rfl
      try simp only [Act.put, List.setIfInBounds_toArray, List.set_cons_zero, List.set_cons_succ, List.getElem_toArray, List.getElem_cons_zero]
      refine take_but (i := 1) (v := ?_) rfl (by kernel_rfl) (by kernel_rfl) (by kernel_rfl) (fun _ _ _ h => h) (by rfl) ?_ ?_
      rotate_left
      · intro w' hB; clear hB; go_simp <;> with_reducible rfl
      try simp only [Act.put, List.setIfInBounds_toArray, List.set_cons_zero, List.set_cons_succ, List.getElem_toArray, List.getElem_cons_zero, List.getElem_cons_succ]
      refine take_but (i := 2) (v := .pointer (some ⟨S, k * 33, none⟩)) rfl (by kernel_rfl) (by kernel_rfl) (by kernel_rfl) (fun _ _ _ h => h) (by rfl) (fun w' hB => exec_idxN (.tmp 1) (.tmp 10) rfl S k rfl rfl hlt) ?_
      try simp only [Act.put, List.setIfInBounds_toArray, List.set_cons_zero, List.set_cons_succ, List.getElem_toArray, List.getElem_cons_zero, List.getElem_cons_succ]
      refine take_but (i := 3) (v := .pointer (some ⟨S, k * 33, none⟩)) rfl (by kernel_rfl) (by kernel_rfl) (by kernel_rfl) (fun _ _ _ h => h) (by rfl) (fun w' hB => exec_fld0 (.tmp 11) rfl S (k * 33) rfl) ?_
      try simp only [Act.put, List.setIfInBounds_toArray, List.set_cons_zero, List.set_cons_succ, List.getElem_toArray, List.getElem_cons_zero, List.getElem_cons_succ]
      refine take_but (i := 4) (v := .agg (u8s q.d)) rfl (by kernel_rfl) (by kernel_rfl) (by kernel_rfl) (fun _ _ _ h => h) (by rfl) (fun w' hB => exec_sum (.tmp 12) rfl S (k * 33) rfl q.d ((HL.out w' hB).1)) ?_
      try simp only [Act.put, List.setIfInBounds_toArray, List.set_cons_zero, List.set_cons_succ, List.getElem_toArray, List.getElem_cons_zero, List.getElem_cons_succ]
      refine take_but (i := 5) (v := ?_) rfl (by kernel_rfl) (by kernel_rfl) (by kernel_rfl) (fun _ _ _ h => h) (by rfl) ?_ ?_
      rotate_left
      · intro w' hB; clear hB; go_simp <;> with_reducible rfl
      try simp only [Act.put, List.setIfInBounds_toArray, List.set_cons_zero, List.set_cons_succ, List.getElem_toArray, List.getElem_cons_zero, List.getElem_cons_succ]
      refine take_but (i := 6) (v := .pointer (some ⟨S, k * 33, none⟩)) rfl (by kernel_rfl) (by kernel_rfl) (by kernel_rfl) (fun _ _ _ h => h) (by rfl) (fun w' hB => exec_idxN (.tmp 1) (.tmp 14) rfl S k rfl rfl hlt) ?_
      try simp only [Act.put, List.setIfInBounds_toArray, List.set_cons_zero, List.set_cons_succ, List.getElem_toArray, List.getElem_cons_zero, List.getElem_cons_succ]
      refine take_but (i := 7) (v := .pointer (some ⟨S, k * 33 + 32, none⟩)) rfl (by kernel_rfl) (by kernel_rfl) (by kernel_rfl) (fun _ _ _ h => h) (by rfl) (fun w' hB => exec_fld1 (.tmp 15) rfl S (k * 33) rfl) ?_
      try simp only [Act.put, List.setIfInBounds_toArray, List.set_cons_zero, List.set_cons_succ, List.getElem_toArray, List.getElem_cons_zero, List.getElem_cons_succ]
      refine take_but (i := 8) (v := .int .u64 q.s) rfl (by kernel_rfl) (by kernel_rfl) (by kernel_rfl) (fun _ _ _ h => h) (by rfl) (fun w' hB => exec_load1 24 _ (.tmp 16) rfl Tryd.underlying24 rfl ⟨S, k * 33 + 32, none⟩ rfl _ ((HL.out w' hB).2)) ?_
      try simp only [Act.put, List.setIfInBounds_toArray, List.set_cons_zero, List.set_cons_succ, List.getElem_toArray, List.getElem_cons_zero, List.getElem_cons_succ]
      refine take_but (i := 9) (v := .agg (ra q)) rfl (by kernel_rfl) (by kernel_rfl) (by kernel_rfl) (fun _ _ _ h => h) (by rfl) (fun w' hB => exec_built 35 [(0, .tmp 13), (1, .tmp 17)] rfl _ rfl _ (built_Q q.d q.s HK.out.ld)) ?_
      try simp only [Act.put, List.setIfInBounds_toArray, List.set_cons_zero, List.set_cons_succ, List.getElem_toArray, List.getElem_cons_zero, List.getElem_cons_succ]
      refine take_but (i := 10) (v := .pointer (some ⟨S + 2, k * 33, none⟩)) rfl (by kernel_rfl) (by kernel_rfl) (by kernel_rfl) (fun _ _ _ h => h) (by rfl) (fun w' hB => exec_idxM (.tmp 3) (.tmp 9) rfl (S + 2) k rfl rfl hlt) ?_
      try simp only [Act.put, List.setIfInBounds_toArray, List.set_cons_zero, List.set_cons_succ, List.getElem_toArray, List.getElem_cons_zero, List.getElem_cons_succ]
      refine last_but (i := 11) rfl (by kernel_rfl) (by rfl) (by kernel_rfl) 35 (.tmp 19) (.tmp 18) rfl (k * 33) (ra q) rfl rfl HW.out (by rw [size_ra HK.out]; exact rt35.siz) (all_ra q) ?_
      generalize wr.drew.setCells (S + 2) (k * 33) (ra q).toList = w5 at HT ⊢
      clear HL HW
      simp only [Act.put, List.setIfInBounds_toArray]
      go_wp2
      go_roundw
      case rel => exact ⟨k + 1, by omega, by go_num, HT⟩
      case measure => simp [intOf]; omega
    · obtain rfl : k = 4 := by omega
      rw [cpN_four N HN.out.2] at HP
      have HF : Box ((na N).size = 132 ∧ (na zn).size = 132 ∧ (nc N).length = 132) := ⟨size_na HN.out.1 HN.out.2, size_na okN_zn rfl, by rw [len_nc HN.out.1, HN.out.2]⟩
      clear HX
      go_wp2_with (first
        | (refine wpList_load_mid rfl 36 _ rfl (S + 2) 0 rfl (nc N) _ HP.out.cel.range Tryd.underlying36 rfl (by rw [HF.out.2.2]; exact infoM) ?_)
        | (refine wpList_store_row rfl 36 _ _ rfl (S + 1) (na N) rfl rfl 36 (na zn) HP.out.res (by rw [HF.out.1]; exact infoM) (by rw [HF.out.1, HF.out.2.1]) (all_na N) ?_))
      (try simp only [Exit.inBlock, Exit.then])
      refine bodyPost_ret (results_N1 rfl Tryd.underlying36 infoM _ _ (S + 1) N HN.out.1 HN.out.2 rfl (setRow_heap _ _ _ _ _ _ HP.out.res)) rfl ?_
      exact ⟨rfl, by rw [HS.out]; exact below_setRow HP.out.bel (by omega) _⟩
end Go.Proofs.YtlbapcpcabieaaaDoor
