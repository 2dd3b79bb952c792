/-
  The walk of DiskPlays: whatever is done with a disk, it is the document's, step by step: the law returns true.
-/
import Derived.Test.YtlokhbkjkobmaaaZW
import Derived.Test.YtlokhbkjkobmaaaZX
import Derived.BigFrame
namespace Go.Proofs.Ytlokhbkjkobmaaa
set_option linter.unusedVariables false
open Go.RowKit Plain

/-- Something that is done, as it lies in memory. -/
def Ae (W : World) (cs : List Value) : Prop := ∃ (kd sl : Int) (xa : Option Addr) (xl xc : Nat) (ka : Option Addr) (kl kc : Nat) (sh : Bool) (X : List Int) (K : List Bool), cs = ac kd sl xa xl xc ka kl kc sh ∧ Bytes W xa xl X ∧ xl ≤ maxLen ∧ Bools W ka kl K ∧ kl ≤ maxLen ∧ sl ≤ 9223372036854775807
def Acts (W : World) (a : Option Addr) (len : Nat) : Prop := len ≤ maxLen ∧ (0 < len → ∃ b off, a = some ⟨b, off, none⟩ ∧ ∀ i, i < len → ∃ cs, W.rangeAt b (off + i * 5) cs ∧ Ae W cs)
theorem Bools.below {w w' : World} {a : Option Addr} {len : Nat} {K : List Bool} (h : Bools w a len K) (hb : Below w.heap.size w w') : Bools w' a len K :=
  h.turned (Turned.of_below (fp := fun _ => False) hb) (fun _ _ _ h => h)
theorem infoA2 {kd sl : Int} {xa : Option Addr} {xl xc : Nat} {ka : Option Addr} {kl kc : Nat} {sh : Bool} : (Try.prog.info? 39).map (·.size) = some (ac kd sl xa xl xc ka kl kc sh).length := by kernel_rfl
/-- A disk and the reference's beside it, in block G. -/
structure Pl (w1 wr : World) (DD G : Nat) (d : Dk) (r : Rd) (V : List Value) : Prop where
  box : wr.heap[G]? = some (.cells V.toArray 31 (0, 0))
  v6 : V.length = 6
  cm : Cm w1 wr DD d
  rv : Rv wr (.agg V.toArray) r
  lo : w1.heap.size ≤ G
theorem Pl.bel {w1 wr : World} {DD G : Nat} {d : Dk} {r : Rd} {V : List Value} (h : Pl w1 wr DD G d r V) : Below w1.heap.size w1 wr := by
  obtain ⟨fp, c⟩ := h.cm
  exact c.bel
theorem Pl.on {w1 wr w' : World} {DD G : Nat} {d : Dk} {r : Rd} {V : List Value} (h : Pl w1 wr DD G d r V) (hb : Below wr.heap.size wr w') : Pl w1 w' DD G d r V :=
  ⟨(hb.block G (Array.getElem?_eq_some_iff.1 h.box).1).trans h.box, h.v6, h.cm.step hb, h.rv.below hb, h.lo⟩
section
variable {P : Program} {md : Region.Mode} {ops : Array Oper} {Q : Exit → Act → World → Prop}
theorem begin_lo (w0 : World) {id : Nat} {a : Act} {w : World} (hm : P.follows .mixedOrders = true) (h : ∀ wd, wd = w.drew → wpAnyH P .any ops Q (fun w' => Below w0.heap.size w0 w') ops.size (Array.replicate ops.size false) a wd) : (Code.region id ops true).wp P Q a w :=
  wp_region_held (S := fun w' => Below w0.heap.size w0 w') hm (h _ rfl)
end
theorem wp_stG {o : Oper} {act : Act} {w : World} {K : Act → World → Prop} {Q : Exit → Act → World → Prop} (x y : Operand) (ho : o.op = .store 31 x y) (b : Nat) (V' : List Value) (hx : act.eval x = .pointer (some ⟨b, 0, none⟩)) (hy : act.eval y = .agg V'.toArray)
    (H : ∃ Z : Array Value, w.heap[b]? = some (.cells Z 31 (0, 0)) ∧ Z.size = 6) (hV : V'.length = 6) (h1 : V'.toArray.all (·.oneCell') = true)
    (h : ∀ w', w'.heap[b]? = some (.cells V'.toArray 31 (0, 0)) → Turned (fun k => k = b) w w' → K (act.put o.dst undef) w') : Oper.wp Try.prog o act w K Q := by
  obtain ⟨Z, hR, hZ⟩ := H
  have hr := run_storeVar_row (P := Try.prog) w b _ 31 Z V'.toArray hR (by rw [infoD]; simp [hV]) (by simp [hZ, hV]) h1
  have t : Turned (fun k => k = b) w (w.setRow b V'.toArray) := ⟨rfl, rfl, rfl, by simp, fun k _ hk => setRow_other w b k _ hk⟩
  unfold Oper.wp execOp
  simp only [ho, hx, hy, Instr.storeAt, Instr.sureAddr, Sem.run_bind, Sem.run_pure, Result.andThen_ok, hr]
  exact h _ (setRow_heap w b Z _ _ _ hR) t
/-- A guarded load of the reference's disk. -/
theorem wpList_ldDw {ops : Array Oper} {rest : List Oper} {o : Oper} {act : Act} {w : World} {Q : Exit → Act → World → Prop} (x : Operand) (ho : o.op = .load 31 x) (S : Nat) (V : List Value) (hx : act.eval x = .pointer (some ⟨S, 0, none⟩)) (hB : w.heap[S]? = some (.cells V.toArray 31 (0, 0))) (hV : V.length = 6) (hw : Region.wanted o (yielded ops act.tmps) = true)
    (h : wpList Try.prog ops Q rest (act.put o.dst (.agg V.toArray)) w) : wpList Try.prog ops Q (o :: rest) act w :=
  BigFrame.wpList_want hw fun _ hK => wp_load_row 31 x ho S hx _ _ _ _ hB Try.underlying31 rfl (by rw [infoD]; simp [hV]) (hK _ _ h)
theorem range_bel {w w' : World} {g o : Nat} {cs : List Value} (h : w.rangeAt g o cs) (hb : Below w.heap.size w w') : w'.rangeAt g o cs := range_turned h (Turned.of_below (fp := fun _ => False) hb) (fun h => h)
theorem Acts.at_ {w w1 : World} {a : Option Addr} {len : Nat} (h : Acts w a len) (hb : Below w.heap.size w w1) (k : Nat) (hk : k < len) : ∃ (sb so : Nat) (kd sl : Int) (xa : Option Addr) (xl xc : Nat) (ka : Option Addr) (kl kc : Nat) (sh : Bool) (X : List Int) (K : List Bool), a = some ⟨sb, so, none⟩ ∧ (∀ w', Below w1.heap.size w1 w' → w'.rangeAt sb (so + k * 5) (ac kd sl xa xl xc ka kl kc sh)) ∧
    (∀ x, Below w1.heap.size w1 x → Bytes x xa xl X) ∧ (∀ x, Below w1.heap.size w1 x → Bools x ka kl K) ∧ (∀ ad, ka = some ad → 0 < kl → ad.block < w1.heap.size) ∧ xl ≤ maxLen ∧ kl ≤ maxLen ∧ sl ≤ 9223372036854775807 := by
  obtain ⟨b, off, rfl, hc⟩ := h.2 (by omega)
  obtain ⟨cs, hr, kd, sl, xa, xl, xc, ka, kl, kc, sh, X, K, rfl, h1, h2, h3, h4, h5⟩ := hc k hk
  refine ⟨b, off, kd, sl, xa, xl, xc, ka, kl, kc, sh, X, K, rfl, fun w' hw => range_bel (range_bel hr hb) hw, fun x hx => (h1.below hb).below hx, fun x hx => (h3.below hb).below hx, fun ad e h0 => ?_, h2, h4, h5⟩
  obtain ⟨kb, ko, e2, hkb, _⟩ := h3.2 h0
  rw [e2] at e
  simp only [Option.some.injEq] at e
  subst e
  exact Nat.lt_of_lt_of_le hkb hb.size
theorem awake_cx {w : World} : Calls Try.prog 9 #[] w fun e w' => e = .returned (.bool true) ∧ Below w.heap.size w w' := awake_any w
set_option maxRecDepth 20000 in
set_option maxHeartbeats 4000000 in
theorem plays_out (n : Int) (a : Option Addr) (len cap : Nat) (w : World) (hn : 20 < n ∧ n ≤ 4096) :
    Calls Try.prog 3 #[.int .i64 n, .slice a len cap] w fun e w' => e = .returned (.bool true) ∧ Below w.heap.size w w' := by
  have d1 : decide (20 < n) = true := by simp; omega
  have d2 : decide (n ≤ 4096) = true := by simp; omega
  clear hn
  go_enter Try.func3, Try.ntmps3
  go_wp2_with (go_at_call 9; refine (awake_any _).mono ?_; rintro e w1 ⟨rfl, hb1⟩; have HB1 : Box (Below w.heap.size w w1) := ⟨hb1⟩; clear hb1)
  go_ret
  exact ⟨rfl, HB1.out⟩
set_option maxRecDepth 20000 in
set_option maxHeartbeats 4000000 in
theorem plays_no (n : Int) (a : Option Addr) (len cap : Nat) (w : World) (hn : n < 1 ∨ 4096 < n) (hlen : len ≤ maxLen) :
    Calls Try.prog 3 #[.int .i64 n, .slice a len cap] w fun e w' => e = .returned (.bool true) ∧ Below w.heap.size w w' := by
  have hl9 : len < 9223372036854775808 := by unfold maxLen at hlen; omega
  have HN : Box (n < 1 ∨ 4096 < n) := ⟨hn⟩
  have d0 : (decide (20 < n) && decide (n ≤ 4096)) = false := by simp; omega
  go_enter Try.func3, Try.ntmps3
  by_cases h20 : 20 < n
  · have d1 : decide (20 < n) = true := by simpa using h20
    have d2 : decide (n ≤ 4096) = false := by simp; omega
    clear hn h20 d0 hlen
    go_upto_region 8 with (first
      | (go_at_call 9; refine (awake_any _).mono ?_; rintro e w1 ⟨rfl, hb1⟩; have HB1 : Box (Below w.heap.size w w1) := ⟨hb1⟩; clear hb1)
      | (go_at_call 10; refine (new_no _ n HN.out).mono ?_; rintro e w' ⟨rfl, rfl⟩)
      | (go_at_call 11; refine (rnew_no _ n HN.out).mono ?_; rintro e w3 ⟨v3, rfl, hv3, hb3⟩; obtain ⟨V3, rfl, hV3, ho3⟩ := rv_of hv3; have H3 : Box (Below w1.heap.size w1 w3 ∧ V3.length = 6 ∧ V3.toArray.all (·.oneCell') = true) := ⟨hb3, hV3, ho3⟩; clear hv3 hb3 hV3 ho3)
      | (refine wpList_run rfl _ _ (exec_alloc 31 rfl _ zeroD) ?_)
      | (refine wpList_stN rfl _ _ rfl _ V3 rfl rfl rfl H3.out.2.1 H3.out.2.2 ?_))
    have H4 : Box (Below w.heap.size w (w3.alloc (.cells V3.toArray 31))) := ⟨(HB1.out.trans (H3.out.1.mono HB1.out.size)).alloc (Nat.le_trans HB1.out.size H3.out.1.size) _⟩
    generalize w3.alloc (.cells V3.toArray 31) = w4 at H4 ⊢
    go_wp2
    go_loopw [10] (fun j wr => j = .int .i64 0 ∧ Box (wr = w4)) (fun _ _ => 0)
    case atStart => exact ⟨rfl, ⟨rfl⟩⟩
    case round =>
      obtain ⟨rfl, hw⟩ := hrel
      obtain rfl := hw.out
      by_cases h0 : 0 < len
      · go_wp2
        go_ret
        exact ⟨rfl, H4.out⟩
      · have h0' : len = 0 := by omega
        subst h0'
        go_wp2
        go_ret
        exact ⟨rfl, H4.out⟩
  · have d1 : decide (20 < n) = false := by simpa using h20
    clear hn h20 d0 hlen
    go_upto_region 8 with (first
      | (go_at_call 9; refine (awake_any _).mono ?_; rintro e w1 ⟨rfl, hb1⟩; have HB1 : Box (Below w.heap.size w w1) := ⟨hb1⟩; clear hb1)
      | (go_at_call 10; refine (new_no _ n HN.out).mono ?_; rintro e w' ⟨rfl, rfl⟩)
      | (go_at_call 11; refine (rnew_no _ n HN.out).mono ?_; rintro e w3 ⟨v3, rfl, hv3, hb3⟩; obtain ⟨V3, rfl, hV3, ho3⟩ := rv_of hv3; have H3 : Box (Below w1.heap.size w1 w3 ∧ V3.length = 6 ∧ V3.toArray.all (·.oneCell') = true) := ⟨hb3, hV3, ho3⟩; clear hv3 hb3 hV3 ho3)
      | (refine wpList_run rfl _ _ (exec_alloc 31 rfl _ zeroD) ?_)
      | (refine wpList_stN rfl _ _ rfl _ V3 rfl rfl rfl H3.out.2.1 H3.out.2.2 ?_))
    have H4 : Box (Below w.heap.size w (w3.alloc (.cells V3.toArray 31))) := ⟨(HB1.out.trans (H3.out.1.mono HB1.out.size)).alloc (Nat.le_trans HB1.out.size H3.out.1.size) _⟩
    generalize w3.alloc (.cells V3.toArray 31) = w4 at H4 ⊢
    go_wp2
    go_loopw [10] (fun j wr => j = .int .i64 0 ∧ Box (wr = w4)) (fun _ _ => 0)
    case atStart => exact ⟨rfl, ⟨rfl⟩⟩
    case round =>
      obtain ⟨rfl, hw⟩ := hrel
      obtain rfl := hw.out
      by_cases h0 : 0 < len
      · go_wp2
        go_ret
        exact ⟨rfl, H4.out⟩
      · have h0' : len = 0 := by omega
        subst h0'
        go_wp2
        go_ret
        exact ⟨rfl, H4.out⟩
set_option maxRecDepth 20000 in
set_option maxHeartbeats 4000000 in
theorem plays_in (n : Nat) (a : Option Addr) (len cap : Nat) (w : World) (hn : 1 ≤ n ∧ n ≤ 20) (hA : Acts w a len) :
    Calls Try.prog 3 #[.int .i64 (n : Int), .slice a len cap] w fun e w' => e = .returned (.bool true) ∧ Below w.heap.size w w' := by
  have hl9 : len < 9223372036854775808 := by have := hA.1; unfold maxLen at this; omega
  have HA : Box (Acts w a len) := ⟨hA⟩
  have HN : Box (1 ≤ n ∧ n ≤ 4096) := ⟨by omega⟩
  have d1 : decide (20 < (n : Int)) = false := by simp; omega
  have d1' : decide (20 < n) = false := by simp; omega
  clear hn hA
  go_enter Try.func3, Try.ntmps3
  go_upto_region 6 with (go_at_call 9; refine (awake_any _).mono ?_; rintro e w1 ⟨rfl, hb1⟩; have HB1 : Box (Below w.heap.size w w1) := ⟨hb1⟩; clear hb1)
  go_upto_region 7 with (go_at_call 10; refine (new_cx w1 n HN.out).mono ?_; rintro e w2 ⟨rfl, hcx⟩; have HC : Box (Cm w1 w2 (w1.heap.size + 1) (dk0 n)) := ⟨hcx⟩; clear hcx)
  generalize w1.heap.size + 1 = DD at HC ⊢
  go_upto_region 8 with (first
    | (go_at_call 11; refine (rnew_any w2 n HN.out).mono ?_; rintro e w3 ⟨v3, rfl, hv3, hb3⟩; obtain ⟨V3, rfl, hV3, ho3⟩ := rv_of hv3; have H3 : Box (Below w2.heap.size w2 w3 ∧ V3.length = 6 ∧ V3.toArray.all (·.oneCell') = true ∧ Rv w3 (.agg V3.toArray) (rd0 n)) := ⟨hb3, hV3, ho3, hv3⟩; clear hv3 hb3 hV3 ho3)
    | (refine wpList_run rfl _ _ (exec_alloc 31 rfl _ zeroD) ?_)
    | (refine wpList_stN rfl _ _ rfl _ V3 rfl rfl rfl H3.out.2.1 H3.out.2.2.1 ?_))
  have hb4 : Below w3.heap.size w3 (w3.alloc (.cells V3.toArray 31)) := (Below.refl _ _).alloc (Nat.le_refl _) _
  have hG : Box (w1.heap.size ≤ w3.heap.size) := ⟨by obtain ⟨fp, c⟩ := HC.out; exact Nat.le_trans c.bel.size H3.out.1.size⟩
  have H4 : Box (∃ d r V, Pl w1 (w3.alloc (.cells V3.toArray 31)) DD w3.heap.size d r V ∧ J 0 d r) := ⟨_, _, V3, ⟨al_at rfl, H3.out.2.1, (HC.out.step H3.out.1).step hb4, H3.out.2.2.2.below hb4, hG.out⟩, j_new n⟩
  clear hb4 HC H3
  generalize w3.alloc (.cells V3.toArray 31) = w4 at H4 ⊢
  generalize w3.heap.size = G at H4 hG ⊢
  go_wp2
  go_loopw [10] (fun j wr => ∃ k : Nat, k ≤ len ∧ k ≤ 40 ∧ j = .int .i64 k ∧ Box (∃ d r V, Pl w1 wr DD G d r V ∧ J k d r)) (fun j _ => len - (intOf j).toNat)
  case atStart => exact ⟨0, Nat.zero_le _, Nat.zero_le _, rfl, H4⟩
  case round =>
    clear H4
    obtain ⟨k, hk, hk40, rfl, HI⟩ := hrel
    obtain ⟨d, r, V, hP, hJ⟩ := HI.out
    have HP : Box (Pl w1 wr DD G d r V) := ⟨hP⟩
    have HJ : Box (J k d r) := ⟨hJ⟩
    clear hP hJ
    by_cases hlt : k < len
    · by_cases hlt2 : k < 40
      · obtain ⟨sb, so, kd, sl, xa, xl, xc, ka, kl, kc, sh, X, K, rfl, hE, hX, hKb, hKn, hxl, hkl, hsl⟩ := HA.out.at_ HB1.out k hlt
        have HE : Box (∀ w', Below w1.heap.size w1 w' → w'.rangeAt sb (so + k * 5) (ac kd sl xa xl xc ka kl kc sh)) := ⟨hE⟩
        have HST : Box (∀ (x : World) (V : List Value) (d : Dk) (r : Rd), Cm w1 x DD d → Rv x (.agg V.toArray) r → V.length = 6 → J k d r → Calls Try.prog 12 #[.pointer (some ⟨DD, 0, none⟩), .agg V.toArray, .agg (ac kd sl xa xl xc ka kl kc sh).toArray] x fun e w' => ∃ v', e = .returned (.tuple #[v', .bool true]) ∧ Stp w1 x DD k d w' v') := ⟨fun x V d r hc hr h6 hj => step_any w1 x DD k d r V hc hr h6 hj (by omega) kd sl xa xl xc ka kl kc sh X K hX hKb hKn hxl hkl hsl⟩
        have hk9 : Box (k < 900000) := ⟨by omega⟩
        clear hE hX hKb hKn hxl hkl hsl HI
        go_upto_region 14 with fail
        rename_i KK ax
        try simp only [Act.put, List.setIfInBounds_toArray, List.set_cons_zero, List.set_cons_succ, List.getElem_toArray, List.getElem_cons_zero, List.getElem_cons_succ]
        refine begin_lo w1 (by kernel_rfl) (fun wd hwd => ?_)
        have GB : Box (Pl w1 wd DD G d r V ∧ J k d r) := ⟨by rw [hwd]; exact HP.out.on (Below.refl _ _).drew, HJ.out⟩
        have GS : Box (Below w1.heap.size w1 wd) := ⟨GB.out.1.bel⟩
        clear hwd
        refine wpAnyH_take (i := 0) (v := ?_) rfl (by kernel_rfl) (by kernel_rfl) (by kernel_rfl) (fun _ _ _ h => h) (Or.inl ⟨by rfl, ?_⟩) GS.out ?_
        rotate_left
        · intro w' hB; clear hB; go_simp <;> with_reducible rfl
        try simp only [Act.put, List.setIfInBounds_toArray, List.set_cons_zero, List.set_cons_succ, List.getElem_toArray, List.getElem_cons_zero]
        refine wpAnyH_take (i := 2) (v := ?_) rfl (by kernel_rfl) (by kernel_rfl) (by kernel_rfl) (fun _ _ _ h => h) (Or.inl ⟨by rfl, ?_⟩) GS.out ?_
        rotate_left
        · intro w' hB; clear hB; go_simp <;> with_reducible rfl
        try simp only [Act.put, List.setIfInBounds_toArray, List.set_cons_zero, List.set_cons_succ, List.getElem_toArray, List.getElem_cons_zero, List.getElem_cons_succ]
        refine wpAnyH_take (i := 3) (v := ?_) rfl (by kernel_rfl) (by kernel_rfl) (by kernel_rfl) (fun _ _ _ h => h) (Or.inl ⟨by rfl, ?_⟩) GS.out ?_
        rotate_left
        · intro w' hB; clear hB; go_simp <;> with_reducible rfl
        try simp only [Act.put, List.setIfInBounds_toArray, List.set_cons_zero, List.set_cons_succ, List.getElem_toArray, List.getElem_cons_zero, List.getElem_cons_succ]
        refine wpAnyH_take (i := 4) (v := ?_) rfl (by kernel_rfl) (by kernel_rfl) (by kernel_rfl) (fun _ _ _ h => h) (Or.inl ⟨by rfl, ?_⟩) GS.out ?_
        rotate_left
        · intro w' hB; clear hB; go_simp <;> with_reducible rfl
        try simp only [Act.put, List.setIfInBounds_toArray, List.set_cons_zero, List.set_cons_succ, List.getElem_toArray, List.getElem_cons_zero, List.getElem_cons_succ]
        refine wpAnyH_take (i := 5) (v := .agg (ac kd sl xa xl xc ka kl kc sh).toArray) rfl (by kernel_rfl) (by kernel_rfl) (by kernel_rfl) (fun _ _ _ h => h) (Or.inl ⟨by rfl, fun w' hB => exec_load_mid 39 _ _ rfl Try.underlying39 rfl sb (so + k * 5) rfl (ac kd sl xa xl xc ka kl kc sh) infoA2 (HE.out w' hB)⟩) GS.out ?_
        try simp only [Act.put, List.setIfInBounds_toArray, List.set_cons_zero, List.set_cons_succ, List.getElem_toArray, List.getElem_cons_zero, List.getElem_cons_succ]
        refine step_kp (i := 1) rfl (by kernel_rfl) (by rfl) (fun KK hK => ?_)
        refine wp_load_row 31 _ rfl G rfl _ _ _ _ GB.out.1.box Try.underlying31 rfl (by rw [infoD]; simp [GB.out.1.v6]) ?_
        refine hK _ _ GS.out ?_
        clear hK KK
        try simp only [Act.put, List.setIfInBounds_toArray, List.set_cons_zero, List.set_cons_succ, List.getElem_toArray, List.getElem_cons_zero, List.getElem_cons_succ]
        refine step_kp (i := 6) rfl (by kernel_rfl) (by rfl) (fun KK hK => ?_)
        go_simp
        refine Calls.mono (HST.out wd V d r GB.out.1.cm GB.out.1.rv GB.out.1.v6 GB.out.2) ?_
        rintro e w4 ⟨v4, rfl, hst⟩
        obtain ⟨d', r', cm', rv', j', fr', nn'⟩ := hst
        obtain ⟨V4, rfl, hV4, ho4⟩ := rv_of rv'
        have GB4 : Box (Below w1.heap.size w1 w4 ∧ w4.heap[G]? = some (.cells V.toArray 31 (0, 0))) := ⟨by obtain ⟨fp, c⟩ := cm'; exact c.bel, (fr'.2 _ _ _ _ GB.out.1.box (by unfold Own4; decide)).trans GB.out.1.box⟩
        refine hK _ _ GB4.out.1 ?_
        clear hK KK
        try simp only [Act.put, List.setIfInBounds_toArray, List.set_cons_zero, List.set_cons_succ, List.getElem_toArray, List.getElem_cons_zero, List.getElem_cons_succ]
        refine wpAnyH_take (i := 7) (v := ?_) rfl (by kernel_rfl) (by kernel_rfl) (by kernel_rfl) (fun _ _ _ h => h) (Or.inl ⟨by rfl, ?_⟩) GB4.out.1 ?_
        rotate_left
        · intro w' hB; clear hB; go_simp <;> with_reducible rfl
        try simp only [Act.put, List.setIfInBounds_toArray, List.set_cons_zero, List.set_cons_succ, List.getElem_toArray, List.getElem_cons_zero, List.getElem_cons_succ]
        refine wpAnyH_take (i := 8) (v := ?_) rfl (by kernel_rfl) (by kernel_rfl) (by kernel_rfl) (fun _ _ _ h => h) (Or.inl ⟨by rfl, ?_⟩) GB4.out.1 ?_
        rotate_left
        · intro w' hB; clear hB; go_simp <;> with_reducible rfl
        try simp only [Act.put, List.setIfInBounds_toArray, List.set_cons_zero, List.set_cons_succ, List.getElem_toArray, List.getElem_cons_zero, List.getElem_cons_succ]
        refine wpAnyH_take (i := 9) (v := ?_) rfl (by kernel_rfl) (by kernel_rfl) (by kernel_rfl) (fun _ _ _ h => h) (Or.inl ⟨by rfl, ?_⟩) GB4.out.1 ?_
        rotate_left
        · intro w' hB; clear hB; go_simp <;> with_reducible rfl
        try simp only [Act.put, List.setIfInBounds_toArray, List.set_cons_zero, List.set_cons_succ, List.getElem_toArray, List.getElem_cons_zero, List.getElem_cons_succ]
        refine step_kp (i := 10) rfl (by kernel_rfl) (by rfl) (fun KK hK => ?_)
        refine wp_stG _ _ rfl G V4 rfl rfl ⟨_, GB4.out.2, by simp [GB.out.1.v6]⟩ hV4 ho4 ?_
        intro w5 h5 t5
        have HP5 : Box (Pl w1 w5 DD G d' r' V4 ∧ J (k + 1) d' r') := ⟨⟨h5, hV4, cm'.put GB4.out.2 HP.out.lo t5, rv'.put GB4.out.2 t5, HP.out.lo⟩, j'⟩
        refine hK _ _ HP5.out.1.bel ?_
        clear hK KK
        try simp only [Act.put, List.getElem_toArray, List.getElem_cons_zero, List.getElem_cons_succ]
        refine wpAnyH_take (i := 11) (v := ?_) rfl (by kernel_rfl) (by kernel_rfl) (by kernel_rfl) (fun _ _ _ h => h) (Or.inl ⟨by rfl, ?_⟩) HP5.out.1.bel ?_
        rotate_left
        · intro w' hB; clear hB; go_simp <;> with_reducible rfl
        try simp only [Act.put, List.setIfInBounds_toArray, List.set_cons_zero, List.set_cons_succ, List.getElem_toArray, List.getElem_cons_zero, List.getElem_cons_succ]
        refine wpAnyH_done (by kernel_rfl) ?_ _
        show KK _ _
        refine ax _ _ ?_
        try simp only [Act.put, List.setIfInBounds_toArray, List.set_cons_zero, List.set_cons_succ, List.getElem_toArray, List.getElem_cons_zero, List.getElem_cons_succ]
        clear ax GB GS GB4 HE HST cm' rv' j' fr' nn' h5 t5
        have HSm : Box (Calls Try.prog 13 #[.pointer (some ⟨DD, 0, none⟩), .agg V4.toArray] w5 fun e w' => e = .returned (.bool true) ∧ Below w5.heap.size w5 w') := ⟨same_any w1 w5 DD (k + 1) d' r' _ HP5.out.1.cm HP5.out.1.rv HP5.out.2 (by have := hk9.out; omega)⟩
        go_wp2_with (first
          | (refine wpList_ldDw _ rfl G V4 rfl HP5.out.1.box HP5.out.1.v6 rfl ?_)
          | (go_at_call 13; refine HSm.out.mono ?_; rintro e w6 ⟨rfl, hb6⟩; have H6 : Box (∃ d r V, Pl w1 w6 DD G d r V ∧ J (k + 1) d r) := ⟨d', r', V4, HP5.out.1.on hb6, HP5.out.2⟩; clear hb6))
        go_roundw
        case rel => exact ⟨k + 1, by omega, by omega, by simp, H6⟩
        case measure => simp [intOf]; omega
      · obtain rfl : k = 40 := by omega
        go_wp2
        go_ret
        exact ⟨rfl, below_to HB1.out HP.out.bel⟩
    · obtain rfl : k = len := by omega
      go_wp2
      go_ret
      exact ⟨rfl, below_to HB1.out HP.out.bel⟩
theorem diskPlays_walk (n : Int) (a : Option Addr) (len cap : Nat) (w : World) (hn : (Lit.int .i64 n).wf = true) (hA : Acts w a len) :
    Calls Try.prog 3 #[.int .i64 n, .slice a len cap] w fun e w' => e = .returned (.bool true) ∧ Below w.heap.size w w' := by
  by_cases h1 : n < 1 ∨ 4096 < n
  · exact plays_no n a len cap w h1 hA.1
  · by_cases h2 : 20 < n
    · exact plays_out n a len cap w ⟨h2, by omega⟩
    · obtain ⟨m, rfl⟩ : ∃ m : Nat, n = (m : Int) := ⟨n.toNat, by omega⟩
      exact plays_in m a len cap w (by omega) hA
end Go.Proofs.Ytlokhbkjkobmaaa
