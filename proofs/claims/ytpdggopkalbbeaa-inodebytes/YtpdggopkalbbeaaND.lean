/-
  What the function Get of package inode answers, for any bytes.
-/
import Derived.Test.YtpdggopkalbbeaaNC
namespace Go.Proofs.Ytpdggopkalbbeaa
set_option linter.unusedVariables false
open Go.RowKit Plain

theorem infoN : (Try.prog.info? 26).map (·.size) = some 8 := by kernel_rfl
theorem zeroN : (Try.prog.info? 26).map (·.zero) = some (some (.agg (nc zn))) := by kernel_rfl
theorem built_N0 : Try.prog.built 26 [] = some (nc zn) := by kernel_rfl
theorem built_N3 (k l z : Int) : Try.prog.built 26 [(0, .int .u8 k), (1, .int .u16 l), (2, .int .u32 z)] = some (nc ⟨k, l, z, 0, 0, 0, 0, 0⟩) := by kernel_rfl
theorem results_N2 {fn : Func} {t u : Tmp} (h : fn.results = #[.cell t 26, .tmp u]) (tmps : Array Value) (w : World) (S : Nat) (N : Nd) (ht : tmps.getD t undef = .pointer (some ⟨S, 0, none⟩)) (hg : Lies w S N) :
    (results fn tmps).run Try.prog w = .ok (.tuple #[.agg (nc N), tmps.getD u undef]) w := by
  have hl := run_loadVar_row (P := Try.prog) w S _ 26 _ _ _ hg Try.underlying26 rfl infoN
  rw [results_cell_tmp h, ht]
  simp [asAddr, hl]
theorem wpList_stN {ops : Array Oper} {rest : List Oper} {o : Oper} {act : Act} {w : World} {Q : Exit → Act → World → Prop} (hgd : o.guard = none) (x y : Operand) (ho : o.op = .store 26 x y) (S : Nat) (N M : Nd) (hx : act.eval x = .pointer (some ⟨S, 0, none⟩)) (hy : act.eval y = .agg (nc N))
    (hg : Lies w S M) (h : wpList Try.prog ops Q rest (act.put o.dst undef) (w.setRow S (nc N))) : wpList Try.prog ops Q (o :: rest) act w :=
  wpList_store_row hgd 26 x y ho S _ hx hy 26 _ hg infoN rfl (one_nc N) h
theorem lies_st {w : World} {S : Nat} {M : Nd} (N : Nd) (h : Lies w S M) : Lies (w.setRow S (nc N)) S N := setRow_heap _ _ _ _ _ _ h
theorem wpList_newN {ops : Array Oper} {rest : List Oper} {o : Oper} {act : Act} {v : World} {Q : Exit → Act → World → Prop} (w : World) (N : Nd) (hgd : o.guard = none) (x y : Operand) (ho : o.op = .store 26 x y)
    (hx : act.eval x = .pointer (some ⟨w.heap.size, 0, none⟩)) (hy : act.eval y = .agg (nc N)) (hv : v = w.alloc (.cells (nc zn) 26))
    (h : ∀ z, Lies z w.heap.size N → Below w.heap.size w z → wpList Try.prog ops Q rest (act.put o.dst undef) z) : wpList Try.prog ops Q (o :: rest) act v :=
  wpList_newRow w (nc zn) (nc N) infoN rfl (one_nc N) hgd x y ho hx hy hv h
theorem exec_ldN {o : Oper} {ρ : Operand → Value} {w' : World} (x : Operand) (ho : o.op = .load 26 x) (S : Nat) (N : Nd) (hx : ρ x = .pointer (some ⟨S, 0, none⟩)) (hB : Lies w' S N) : (execOp ρ o).run Try.prog w' = .ok (.value (.agg (nc N))) w' := by
  unfold execOp
  simp only [ho, hx, Instr.loadAt, Instr.sureAddr, Sem.run_bind, Sem.run_pure, Result.andThen_ok, run_loadVar_row w' S 26 26 (nc N) (0, 0) _ hB Try.underlying26 rfl infoN]
/-- Where Get stands: noughts for the answer in block S, the inode in block G. -/
structure Gt (w wr : World) (S G : Nat) (N : Nd) (a : Option Addr) (L : List Int) : Prop where
  res : Lies wr S zn
  cel : Lies wr G N
  byt : Bytes wr a 32 L
  bel : Below S w wr
  old : Bytes w a 32 L
  sz : w.heap.size = S
  lt : S < G
theorem Gt.on {w wr w' : World} {S G : Nat} {N : Nd} {a : Option Addr} {L : List Int} (h : Gt w wr S G N a L) (hb : Below wr.heap.size wr w') : Gt w w' S G N a L :=
  ⟨h.res.below hb, h.cel.below hb, h.byt.below hb, h.bel.trans (hb.mono (Nat.le_of_lt h.res.lt)), h.old, h.sz, h.lt⟩
theorem Gt.set {w wr : World} {S G : Nat} {N : Nd} {a : Option Addr} {L : List Int} (h : Gt w wr S G N a L) (k : Nat) (hk : k < 5) (x : Int) : Gt w (wr.setCell ⟨G, 3 + k, none⟩ (.int .u16 x)) S G (setB N k x) a L := by
  have hb := below_set h.bel (Nat.le_of_lt h.lt) (.int .u16 x) (i := 3 + k)
  exact ⟨(heap_setCell_other wr ⟨G, 3 + k, none⟩ S _ (by have := h.lt; simp; omega)).trans h.res, h.cel.set k hk x, h.old.below (by rw [h.sz]; exact hb), hb, h.old, h.sz, h.lt⟩
/-- The inode of bytes, as far as its first k numbers. -/
def upto (L : List Int) (k : Nat) : Nd := ⟨L.getD 0 0, num L 2 2, num L 4 4, if 0 < k then num L 8 2 else 0, if 1 < k then num L 10 2 else 0, if 2 < k then num L 12 2 else 0, if 3 < k then num L 14 2 else 0, if 4 < k then num L 16 2 else 0⟩
theorem upto_succ (L : List Int) (k : Nat) (hk : k < 5) : setB (upto L k) k (num L (8 + 2 * k) 2) = upto L (k + 1) := by
  match k, hk with
  | 0, _ => rfl
  | 1, _ => rfl
  | 2, _ => rfl
  | 3, _ => rfl
  | 4, _ => rfl
theorem upto_five (L : List Int) : upto L 5 = ofN L := rfl

set_option maxHeartbeats 1000000 in
theorem nget_len (a : Option Addr) (n cap : Nat) (L : List Int) (w : World) (hB : Bytes w a n L) (hn : n ≠ 32) :
    Calls Try.prog 10 #[.slice a n cap] w fun e w' => e = .returned (.tuple #[.agg (nc zn), .int .i64 11]) ∧ Below w.heap.size w w' := by
  have g1 : ((n : Int) != 32) = true := by simp; omega
  have H1 : Box (Lies (w.alloc (.cells (nc zn) 26)) w.heap.size zn ∧ Below w.heap.size w (w.alloc (.cells (nc zn) 26))) := ⟨lies_new w zn, box_below _ _⟩
  clear hB hn
  go_enter Try.func10, Try.ntmps10
  go_upto_region 1 with (refine wpList_run rfl _ _ (exec_alloc 26 rfl _ zeroN) ?_)
  generalize w.alloc (.cells (nc zn) 26) = w1 at H1 ⊢
  go_wp2_with (first
    | (refine wpList_run rfl _ _ (exec_built 26 [] rfl [] rfl _ built_N0) ?_)
    | (refine wpList_stN rfl _ _ rfl w.heap.size zn zn rfl rfl H1.out.1 ?_))
  (try simp only [Exit.inBlock, Exit.then])
  refine bodyPost_ret (results_N2 rfl _ _ w.heap.size _ rfl (lies_st zn H1.out.1)) rfl ?_
  exact ⟨rfl, below_setRow' H1.out.2 _⟩

set_option maxRecDepth 20000 in
set_option maxHeartbeats 4000000 in
theorem nget_in (a : Option Addr) (cap : Nat) (L : List Int) (w : World) (hB : Bytes w a 32 L) :
    Calls Try.prog 10 #[.slice a 32 cap] w fun e w' => e = .returned (getN L) ∧ Below w.heap.size w w' := by
  obtain ⟨S, hS⟩ : ∃ S, w.heap.size = S := ⟨_, rfl⟩
  have HS : Box (w.heap.size = S) := ⟨hS⟩
  have H1 : Box (Lies (w.alloc (.cells (nc zn) 26)) S zn ∧ Below S w (w.alloc (.cells (nc zn) 26)) ∧ Bytes w a 32 L ∧ Bytes (w.alloc (.cells (nc zn) 26)) a 32 L) := ⟨hS ▸ lies_new w zn, (Below.refl _ _).alloc (by omega) _, hB, hB.below (box_below _ _)⟩
  obtain ⟨b0, o0, rfl, -, -⟩ := hB.2.2 (by omega)
  have HO : Box (Byt L ∧ L.length = 32 ∧ OkN (ofN L)) := ⟨hB.2.1, hB.1, ok_ofN L hB.2.1⟩
  have G : ∀ (p n : Nat) (z : World), Bytes z (some ⟨b0, o0, none⟩) 32 L → 1 ≤ n → n ≤ 8 → p + n ≤ 32 → Calls Try.prog 19 #[.slice (some ⟨b0, o0, none⟩) 32 cap, .int .i64 p, .int .i64 n] z fun e w' => e = .returned (.tuple #[.int .u64 (num L p n), .int .i64 0]) ∧ z = w' := fun p n z hz h1 h2 h3 => get_ok _ 32 cap L p n z hz (by unfold maxLen; omega) (by omega) (by omega) (by omega)
  have HG : Box (∀ (p n : Nat) (z : World), Bytes z (some ⟨b0, o0, none⟩) 32 L → 1 ≤ n → n ≤ 8 → p + n ≤ 32 → Calls Try.prog 19 #[.slice (some ⟨b0, o0, none⟩) 32 cap, .int .i64 p, .int .i64 n] z fun e w' => e = .returned (.tuple #[.int .u64 (num L p n), .int .i64 0]) ∧ z = w') := ⟨G⟩
  clear hS hB G
  go_enter Try.func10, Try.ntmps10
  go_upto_region 1 with (refine wpList_run rfl _ _ (exec_alloc 26 rfl _ zeroN) ?_)
  rw [HS.out]
  generalize w.alloc (.cells (nc zn) 26) = w1 at H1 ⊢
  go_upto_region 4 with (go_at_call 19; refine Calls.mono (HG.out 2 2 _ H1.out.2.2.2 (by omega) (by omega) (by omega)) ?_; rintro e w' ⟨rfl, rfl⟩)
  go_upto_region 5 with (go_at_call 19; refine Calls.mono (HG.out 4 4 _ H1.out.2.2.2 (by omega) (by omega) (by omega)) ?_; rintro e w' ⟨rfl, rfl⟩)
  have b1 : 0 ≤ num L 2 2 ∧ num L 2 2 < 65536 := num_bd L 2 HO.out.1 2
  have b2 : 0 ≤ num L 4 4 ∧ num L 4 4 < 4294967296 := num_bd L 4 HO.out.1 4
  obtain ⟨_, _, hcc⟩ := H1.out.2.2.2
  obtain ⟨b1', o1', he, _, hc⟩ := hcc (by omega)
  simp only [Option.some.injEq, Addr.mk.injEq, and_true] at he
  obtain ⟨rfl, rfl⟩ := he
  have c0 := hc 0 (by omega)
  rw [Nat.add_zero] at c0
  clear hc hcc
  have HU : Box (upto L 0 = ⟨L.getD 0 0, num L 2 2, num L 4 4, 0, 0, 0, 0, 0⟩) := ⟨rfl⟩
  generalize L.getD 0 0 = k0 at c0 HU
  generalize num L 2 2 = l0 at b1 HU ⊢
  generalize num L 4 4 = z0 at b2 HU ⊢
  have W1 : IntKind.u16.wrap l0 = l0 := by rw [IntKind.wrap_u16]; omega
  have W2 : IntKind.u32.wrap z0 = z0 := by rw [IntKind.wrap_u32]; omega
  go_upto_region 6 with (first
    | (refine wpList_run rfl _ _ (exec_built 26 [(0, .tmp 29), (1, .tmp 31), (2, .tmp 33)] rfl [(0, .int .u8 k0), (1, .int .u16 l0), (2, .int .u32 z0)] (by simp only [List.map_cons, List.map_nil]; go_simp; (try rw [W1]); (try rw [W2])) _ (built_N3 _ _ _)) ?_)
    | (refine wpList_run rfl _ _ (exec_alloc 26 rfl _ zeroN) ?_)
    | (refine wpList_newN w1 (upto L 0) rfl _ _ rfl rfl (by rw [HU.out]; rfl) rfl ?_; intro w2 hz hb; have H2 : Box (Gt w w2 S w1.heap.size (upto L 0) (some ⟨b0, o0, none⟩) L) := ⟨⟨H1.out.1.below hb, hz, H1.out.2.2.2.below hb, H1.out.2.1.trans (hb.mono (Nat.le_of_lt H1.out.1.lt)), H1.out.2.2.1, HS.out, H1.out.1.lt⟩⟩; clear hz hb))
  generalize w1.heap.size = T at H2 ⊢
  clear H1 c0 b1 b2 W1 W2 HU HS
  go_upto_region 7 with (go_at_call 17; refine Calls.mono (blocks_any T w2) ?_; rintro e w3 ⟨rfl, hb⟩; have H3 : Box (Gt w w3 S T (upto L 0) (some ⟨b0, o0, none⟩) L) := ⟨H2.out.on hb⟩; clear hb)
  clear H2
  go_loopw [36] (fun i wr => ∃ k : Nat, k ≤ 5 ∧ i = .int .i64 k ∧ Box (Gt w wr S T (upto L k) (some ⟨b0, o0, none⟩) L)) (fun i _ => 5 - (intOf i).toNat)
  case atStart => exact ⟨0, by omega, rfl, H3⟩
  case round =>
    obtain ⟨k, hk, rfl, HP⟩ := hrel
    clear H3
    by_cases hlt : k < 5
    · have hix := index5 T k hlt
      have f1 : wr.frozen? ⟨T, 3 + k, none⟩ = false := HP.out.cel.froz _
      have c1 := HP.out.cel.num k hlt
      have HS : Box (Gt w (wr.setCell ⟨T, 3 + k, none⟩ (.int .u16 (num L (8 + 2 * k) 2))) S T (upto L (k + 1)) (some ⟨b0, o0, none⟩) L) := ⟨by rw [← upto_succ L k hlt]; exact HP.out.set k hlt _⟩
      have CG : Box (Calls Try.prog 19 #[.slice (some ⟨b0, o0, none⟩) 32 cap, .int .i64 (8 + 2 * (k : Int)), .int .i64 2] wr fun e w' => e = .returned (.tuple #[.int .u64 (num L (8 + 2 * k) 2), .int .i64 0]) ∧ wr = w') := ⟨HG.out (8 + 2 * k) 2 wr HP.out.byt (by omega) (by omega) (by omega)⟩
      have b1 : 0 ≤ num L (8 + 2 * k) 2 ∧ num L (8 + 2 * k) 2 < 65536 := num_bd L _ HO.out.1 2
      generalize (ns (upto L k)).getD k 0 = y at c1
      generalize num L (8 + 2 * k) 2 = x at HS CG b1
      have W1 : IntKind.u16.wrap x = x := by rw [IntKind.wrap_u16]; omega
      go_wp2_with (go_at_call 19; refine Calls.mono CG.out ?_; rintro e w' ⟨rfl, rfl⟩)
      try rw [W1]
      go_roundw
      case rel => exact ⟨k + 1, by omega, by go_num, HS⟩
      case measure => simp [intOf]; omega
    · obtain rfl : k = 5 := by omega
      rw [upto_five] at HP
      clear hk hlt HG
      have k0 := HP.out.cel.cell 0
      have e0 : (nc (ofN L))[0]? = some (.int .u8 (L.getD 0 0)) := rfl
      rw [e0] at k0
      clear e0
      by_cases h3 : L.getD 0 0 ≤ 3
      · have h3' : ¬ 3 < L.getD 0 0 := by omega
        have HQ : Box (getN L = if decide (L = nb (ofN L)) = true then .tuple #[.agg (nc (ofN L)), .int .i64 0] else .tuple #[.agg (nc zn), .int .i64 11]) := ⟨by
          have := fit_iff L HO.out.1 HO.out.2.1
          unfold getN
          by_cases e : Fit L
          · rw [if_pos e, if_pos (by simpa using (this.1 e).2)]
          · rw [if_neg e, if_neg (by intro h; exact e (this.2 ⟨h3, by simpa using h⟩))]⟩
        have CP : Box (Calls Try.prog 9 #[.agg (nc (ofN L))] wr fun e w' => ∃ g, e = .returned (.slice (some ⟨g, 0, none⟩) 32 32) ∧ Out wr w' (some ⟨g, 0, none⟩) 32 32 (nb (ofN L))) := ⟨nput_any (ofN L) wr HO.out.2.2⟩
        have HY : Box (Byt (nb (ofN L))) := ⟨byt_nb HO.out.2.2⟩
        generalize L.getD 0 0 = x0 at k0 h3 h3'
        generalize ofN L = N at HP CP HQ HY
        cases hq : decide (L = nb N)
        · rw [hq] at HQ
          go_upto_region 13 with (first
            | (refine wpList_runG rfl _ _ (exec_ldN _ rfl T N rfl HP.out.cel) ?_)
            | (go_at_call 9; refine Calls.mono CP.out ?_; rintro e w4 ⟨g4, rfl, hO⟩; have H4 : Box (Gt w w4 S T N (some ⟨b0, o0, none⟩) L ∧ Bytes w4 (some ⟨g4, 0, none⟩) 32 (nb N)) := ⟨HP.out.on hO.2.2, hO.bytes HY.out⟩; clear hO)
            | (go_at_call 20; refine Calls.mono (equal_any (some ⟨b0, o0, none⟩) (some ⟨g4, 0, none⟩) 32 32 cap 32 L (nb N) false w4 H4.out.1.byt H4.out.2 hq) ?_; rintro e w5 ⟨rfl, rfl⟩))
          go_wp2_with (first
            | (refine wpList_run rfl _ _ (exec_built 26 [] rfl [] rfl _ built_N0) ?_)
            | (refine wpList_stN rfl _ _ rfl S zn zn rfl rfl H4.out.1.res ?_))
          (try simp only [Exit.inBlock, Exit.then])
          refine bodyPost_ret (results_N2 rfl _ _ S _ rfl (lies_st zn H4.out.1.res)) rfl ?_
          exact ⟨by rw [HQ.out]; rfl, by rw [H4.out.1.sz]; exact below_setRow' H4.out.1.bel _⟩
        · rw [hq] at HQ
          go_upto_region 14 with (first
            | (refine wpList_runG rfl _ _ (exec_ldN _ rfl T N rfl HP.out.cel) ?_)
            | (go_at_call 9; refine Calls.mono CP.out ?_; rintro e w4 ⟨g4, rfl, hO⟩; have H4 : Box (Gt w w4 S T N (some ⟨b0, o0, none⟩) L ∧ Bytes w4 (some ⟨g4, 0, none⟩) 32 (nb N)) := ⟨HP.out.on hO.2.2, hO.bytes HY.out⟩; clear hO)
            | (go_at_call 20; refine Calls.mono (equal_any (some ⟨b0, o0, none⟩) (some ⟨g4, 0, none⟩) 32 32 cap 32 L (nb N) true w4 H4.out.1.byt H4.out.2 hq) ?_; rintro e w5 ⟨rfl, rfl⟩))
          go_wp2_with (first
            | (refine wpList_run rfl _ _ (exec_ldN _ rfl T N rfl H4.out.1.cel) ?_)
            | (refine wpList_stN rfl _ _ rfl S N zn rfl rfl H4.out.1.res ?_))
          (try simp only [Exit.inBlock, Exit.then])
          refine bodyPost_ret (results_N2 rfl _ _ S _ rfl (lies_st N H4.out.1.res)) rfl ?_
          exact ⟨by rw [HQ.out]; rfl, by rw [H4.out.1.sz]; exact below_setRow' H4.out.1.bel _⟩
      · have h3' : 3 < L.getD 0 0 := by omega
        have HQ : Box (getN L = .tuple #[.agg (nc zn), .int .i64 11]) := ⟨getN_no (fun h => h3 h.2.1)⟩
        generalize L.getD 0 0 = x0 at k0 h3 h3'
        go_wp2_with (first
          | (refine wpList_run rfl _ _ (exec_built 26 [] rfl [] rfl _ built_N0) ?_)
          | (refine wpList_stN rfl _ _ rfl S zn zn rfl rfl HP.out.res ?_))
        (try simp only [Exit.inBlock, Exit.then])
        refine bodyPost_ret (results_N2 rfl _ _ S _ rfl (lies_st zn HP.out.res)) rfl ?_
        exact ⟨by rw [HQ.out]; rfl, by rw [HP.out.sz]; exact below_setRow' HP.out.bel _⟩
theorem nget_any (a : Option Addr) (n cap : Nat) (L : List Int) (w : World) (hB : Bytes w a n L) :
    Calls Try.prog 10 #[.slice a n cap] w fun e w' => e = .returned (getN L) ∧ Below w.heap.size w w' := by
  by_cases h : n = 32
  · subst h; exact nget_in a cap L w hB
  · rw [getN_no (fun h2 => h (by rw [← hB.1]; exact h2.1))]
    exact nget_len a n cap L w hB h
end Go.Proofs.Ytpdggopkalbbeaa
