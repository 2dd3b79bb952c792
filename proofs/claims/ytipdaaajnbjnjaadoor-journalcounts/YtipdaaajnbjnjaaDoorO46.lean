/-
  JournalCounts: what counts isn't written over by what is appended, as long as that isn't adopted; one that is none does nothing.
-/
import Derived.Test.YtipdaaajnbjnjaaDoorO45
import Derived.Test.YtipdaaajnbjnjaaDoorO01
import Derived.Test.YtipdaaajnbjnjaaDoorO39
namespace Go.Proofs.YtipdaaajnbjnjaaDoor
set_option maxRecDepth 100000
set_option linter.unusedVariables false
open Go.RowKit Plain
attribute [local go_sem] Oper.semAt_some
theorem exec_u8u64 {o : Oper} {ρ : Operand → Value} {w' : World} (x : Operand) (ho : o.op = .convert 5 24 x) (a : Int) (hw : IntKind.u64.wrap a = a) (hx : ρ x = .int .u8 a) : (execOp ρ o).run Tryd.prog w' = .ok (.value (.int .u64 a)) w' := by
  have h : (convert 5 24 (.int .u8 a)).run Tryd.prog w' = .ok (.int .u64 (IntKind.u64.wrap a)) w' := by kernel_rfl
  unfold execOp
  simp only [ho, hx, Sem.run_bind, h, Result.andThen_ok, hw]
  rfl
theorem exec_intu64 {o : Oper} {ρ : Operand → Value} {w' : World} (x : Operand) (ho : o.op = .convert 3 24 x) (a : Int) (hw : IntKind.u64.wrap a = a) (hx : ρ x = .int .i64 a) : (execOp ρ o).run Tryd.prog w' = .ok (.value (.int .u64 a)) w' := by
  have h : (convert 3 24 (.int .i64 a)).run Tryd.prog w' = .ok (.int .u64 (IntKind.u64.wrap a)) w' := by kernel_rfl
  unfold execOp
  simp only [ho, hx, Sem.run_bind, h, Result.andThen_ok, hw]
  rfl
theorem exec_remU {o : Oper} {ρ : Operand → Value} {w' : World} (x y : Operand) (ty : TypeId) (ho : o.op = .binOp .rem 24 x y ty) (a b v : Int) (hb : b ≠ 0) (hv : a.tmod b = v) (hx : ρ x = .int .u64 a) (hy : ρ y = .int .u64 b) :
    (execOp ρ o).run Tryd.prog w' = .ok (.value (.int .u64 v)) w' := by
  unfold execOp
  simp [ho, hx, hy, eqGuard, binOp, Op.intDiv, hb, hv]
theorem exec_idxTU {op : Oper} {ρ : Operand → Value} {w' : World} (t e : TypeId) (hu : Tryd.prog.underlying t = some (.slice e)) (sz : Nat) (hi : (Tryd.prog.info? e).map (·.size) = some sz) (x y : Operand) (ho : op.op = .indexAddr t x y) (b o len cap j : Nat) (hx : ρ x = .slice (some ⟨b, o, none⟩) len cap) (hy : ρ y = .int .u64 (j : Int)) (hj : j < len) :
    (execOp ρ op).run Tryd.prog w' = .ok (.value (.pointer (some ⟨b, o + j * sz, none⟩))) w' := by
  have hc : (0 : Int) ≤ (j : Int) ∧ (j : Int) < (len : Int) := by omega
  have hs : (sizeOf e).run Tryd.prog w' = .ok sz w' := by
    cases hq : Tryd.prog.info? e with
    | none => simp [hq] at hi
    | some i =>
      have h1 : i.size = sz := by simpa [hq] using hi
      simp [sizeOf, typeInfo, hq, h1]
  unfold execOp
  simp [ho, hx, hy, Instr.indexAt, asIntOf, Sem.run_bind, run_underlying hu, hc, Addr.add_mid, hs]
  intro hh; omega
theorem exec_strSame {o : Oper} {ρ : Operand → Value} {w' : World} (x y : Operand) (ty : TypeId) (ho : o.op = .binOp .neq 9 x y ty) (A : List Int) (hA : Byt A) (hx : ρ x = .string (strOfNums A)) (hy : ρ y = .string (strOfNums A)) :
    (execOp ρ o).run Tryd.prog w' = .ok (.value (.bool false)) w' := by
  rw [exec_strN x y ty ho A A hA hA hx hy, decide_eq_true rfl]; rfl
theorem imgP_len (short : Bool) (L : List (Int × List Int)) (h : short = false) : ∀ x ∈ imgP short L, x.2.length = 160 := by
  subst h
  intro x hx
  simp only [imgP, List.mem_mapIdx] at hx
  obtain ⟨i, hi, rfl⟩ := hx
  simp [szP, length_padTo]
theorem bad_160 (L : List (Int × List Int)) (h : ∀ x ∈ L, x.2.length = 160) (h0 : 0 < L.length) : bad L = false := by
  simp only [bad, Bool.or_eq_false_iff, List.any_eq_false, decide_eq_true_eq]
  refine ⟨?_, fun x hx => by rw [h x hx]; simp⟩
  cases L with
  | nil => simp at h0
  | cons x L => rfl
/-- The second appending: what counts stays. -/
structure Cnt (k na at' nb : Nat) (d : Disk.Dk) (y : Ast) : Prop where
  up : Up y.1
  nn : y.1.n = d.n
  left : y.1.left = d.left
  ops : y.1.ops.length ≤ d.ops.length + nb
  uw : y.1.uw.length ≤ nb
  keeps : ∀ i, i < na → (Disk.flOk y.1).pl ((at' + i) % k) = d.pl ((at' + i) % k)
  err : y.2.2.1 = if nb = 0 then 1 else if k - na < nb then 17 else 0
  ok : OkS y.2.2.2
theorem cnt_of (j : Jt) (okj : j.Ok) (hf : j.first = 0) (d : Disk.Dk) (hd : Up d) (hu : d.uw = []) (L : List (Int × List Int)) (hL : ∀ x ∈ L, x.2.length = 160) (hl : L.length ≤ 1000) (hnx : j.nx + (L.length : Int) ≤ j.lim) : Cnt j.size j.st.count j.st.start L.length d (appM j d L) := by
  have hcl := okj.cl
  have hhi := okj.hi
  have hsl := okj.sl
  by_cases h0 : L.length = 0
  · have e0 : L = [] := List.eq_nil_of_length_eq_zero h0
    have e : appM j d L = (d, j.nx, 1, zs) := by rw [e0]; rfl
    rw [e, h0]
    exact ⟨hd, rfl, rfl, by show d.ops.length ≤ _; omega, by rw [show (d, j.nx, (1 : Int), zs).1.uw = d.uw from rfl, hu]; simp, fun i hi => by show Disk.lay d.uw d.pl _ = _; rw [hu]; rfl, rfl, okS_zs⟩
  · have hb := bad_160 L hL (by omega)
    by_cases h1 : j.size - j.st.count < L.length
    · have ht : tke j L.length = 17 := by unfold tke; rw [if_pos h1]
      have e : appM j d L = (d, j.nx, 17, zs) := by
        unfold appM
        rw [if_neg (by rw [hb]; simp), if_pos (by rw [ht]; decide), ht]
      rw [e]
      exact ⟨hd, rfl, rfl, by show d.ops.length ≤ _; omega, by rw [show (d, j.nx, (17 : Int), zs).1.uw = d.uw from rfl, hu]; simp, fun i hi => by show Disk.lay d.uw d.pl _ = _; rw [hu]; rfl, by rw [if_neg h0, if_pos h1], okS_zs⟩
    · have h := appM_up j okj d L hd hb (by omega) hnx
      generalize appM j d L = y at h ⊢
      obtain ⟨W, hW1, hW2⟩ := h.uw
      have hWl : W.length = L.length := by have := congrArg List.length hW2; simpa [pls] using this
      refine ⟨h.up, h.nn, h.left, by rw [h.ops]; simp [pls], by rw [hW1, hu, List.nil_append, hWl]; exact Nat.le_refl _, fun i hi => ?_, by rw [h.er, if_neg h0, if_neg h1], h.okS (by omega) (by omega)⟩
      show Disk.lay y.1.uw y.1.pl _ = _
      rw [h.pl, hW1, hu, List.nil_append]
      refine lay_no W d.pl _ ?_
      rw [hW2]
      simp only [pls, List.mem_map, List.mem_range, not_exists, not_and]
      intro x hx e
      unfold plc at e
      rw [hf, Nat.zero_add] at e
      exact mod_ne j.st.start j.st.count i x j.size hi (by omega) e
set_option maxHeartbeats 16000000 in
theorem journalCounts_core (K : List Int) (hK : K.length = 32 ∧ Byt K) (sz st : Nat) (hsz : sz < 256) (hst : st < 256) (a : Option Addr) (ca : Nat) (M : List Im) (b : Option Addr) (cb : Nat) (N : List Im) (w : World) (hT : Dig.Tabs w) (hT2 : Seal.Tab w) (hM : Imgs w a M) (hN : Imgs w b N) (hmM : M.length ≤ 9223372036854775807) (hmN : N.length ≤ 9223372036854775807) :
    Calls Tryd.prog 5 #[.agg (u8s K), .int .u8 (sz : Int), .int .u8 (st : Int), .slice a M.length ca, .slice b N.length cb] w fun e w' => e = .returned (.bool true) ∧ Below w.heap.size w w' := by
  obtain ⟨S, hS⟩ : ∃ S, w.heap.size = S := ⟨_, rfl⟩
  obtain ⟨AK, HAK⟩ : ∃ A, Box (u8s K = A) := ⟨_, ⟨rfl⟩⟩
  rw [HAK.out]
  obtain ⟨w1, hw1⟩ : ∃ w1, w.alloc (.cells AK 23) = w1 := ⟨_, rfl⟩
  have hb1 : Below w.heap.size w w1 := by rw [← hw1]; exact (Below.refl _ _).alloc (Nat.le_refl _) _
  have r1 : w1.heap[S]? = some (.cells AK 23 (0, 0)) := by rw [← hw1]; exact al_at hS
  have HAW : Box (Calls Tryd.prog 8 #[] w1 fun e w' => e = .returned (.bool true) ∧ Below w1.heap.size w1 w') := ⟨awake_v w1 (hT.below hb1) (hT2.below hb1)⟩
  have HX : Box (∀ x, Below w1.heap.size w1 x → x.rangeAt S 0 (K.map (Value.int .u8)) ∧ Dig.Tabs x ∧ Seal.Tab x ∧ Imgs x a M ∧ Imgs x b N ∧ Below w.heap.size w x) := ⟨fun x hx => ⟨fun j q hq => by
    rw [cell_of_row _ _ _ _ _ _ ((hx.block S (Array.getElem?_eq_some_iff.1 r1).1).trans r1), Nat.zero_add, ← HAK.out]
    simpa [u8s] using hq, hT.below (below_to hb1 hx), hT2.below (below_to hb1 hx), hM.below (below_to hb1 hx), hN.below (below_to hb1 hx), below_to hb1 hx⟩⟩
  have HKI : Box ((Tryd.prog.info? 23).map (·.size) = some (K.map (Value.int .u8)).length ∧ (K.map (Value.int .u8)).toArray = AK ∧ K.length = 32 ∧ Byt K) := ⟨by rw [List.length_map, hK.1]; exact infoSum, by rw [← HAK.out]; rfl, hK⟩
  have HS : Box (w.heap.size = S) := ⟨hS⟩
  obtain ⟨na, hna⟩ : ∃ n, M.length = n := ⟨_, rfl⟩
  obtain ⟨nb, hnb⟩ : ∃ n, N.length = n := ⟨_, rfl⟩
  have HLN : Box (M.length = na ∧ N.length = nb) := ⟨hna, hnb⟩
  rw [hna] at hmM
  rw [hnb] at hmN
  rw [hna, hnb]
  clear hT hT2 hM hN hK hb1 r1 hS hna hnb
  by_cases hA : na ≤ 10
  · have dA : decide ((10 : Int) < (na : Int)) = false := by simp; omega
    by_cases hB : nb ≤ 10
    · have dB : decide ((10 : Int) < (nb : Int)) = false := by simp; omega
      obtain ⟨k, hk⟩ : ∃ k, sz % 9 + 1 = k := ⟨_, rfl⟩
      obtain ⟨at0, hat0⟩ : ∃ q, st % k = q := ⟨_, rfl⟩
      have HK9 : Box (1 ≤ k ∧ k ≤ 9 ∧ at0 < k ∧ na ≤ 10 ∧ nb ≤ 10) := ⟨by omega, by omega, by rw [← hat0]; exact Nat.mod_lt _ (by omega), hA, hB⟩
      have hwk : IntKind.i64.wrap ((sz : Int) % 9 + 1) = (k : Int) := by rw [IntKind.wrap_i64]; omega
      have HWS : Box (IntKind.u64.wrap (st : Int) = (st : Int) ∧ IntKind.u64.wrap (k : Int) = (k : Int) ∧ (k : Int) ≠ 0 ∧ (st : Int).tmod (k : Int) = (at0 : Int)) := ⟨by rw [IntKind.wrap_u64]; omega, by rw [IntKind.wrap_u64]; omega, by omega, by rw [← hat0]; rfl⟩
      clear hk hat0
      obtain ⟨SZ, HSZ⟩ : ∃ A, Box (sa zs = A) := ⟨_, ⟨rfl⟩⟩
      have HSZI : Box ((Tryd.prog.info? 26).map (·.size) = some SZ.size ∧ (sa zs).size = SZ.size ∧ SZ.all (·.oneCell') = true ∧ (Tryd.prog.info? 26).map (·.size) = some (scs zs).length ∧ (scs zs).toArray = SZ) := ⟨by rw [← HSZ.out, size_sa okS_zs]; exact infoSt, by rw [HSZ.out], by rw [← HSZ.out]; exact all_sa zs, by rw [len_scs okS_zs]; exact infoSt, by rw [← HSZ.out]; rfl⟩
      obtain ⟨S1, HS1⟩ : ∃ A, Box (sa ⟨0, 1, z32⟩ = A) := ⟨_, ⟨rfl⟩⟩
      go_enter Tryd.func5, Tryd.ntmps5
      go_upto_region 1 with fail
      (try simp only [HS.out])
      clear hw1
      go_upto_region 7 with (go_at_call 8; refine HAW.out.mono ?_; rintro e x1 ⟨rfl, hb⟩; have H1 : Box (Below w1.heap.size w1 x1) := ⟨hb⟩; clear hb)
      clear HAW dA dB hA hB
      have HN1 : Box (∀ x, Calls Tryd.prog 22 #[.pointer none, .slice none 0 0] x fun e w' => e = .returned (.tuple #[.agg SZ, .int .i64 1]) ∧ Below x.heap.size x w') := ⟨fun x => by have := append_nil none 0 0 x; rw [HSZ.out] at this; exact this⟩
      go_upto_region 8 with (first
        | (go_at_call 22; refine (HN1.out _).mono ?_; rintro e x2 ⟨rfl, hb⟩; have H2 : Box (Below w1.heap.size w1 x2) := ⟨below_to H1.out hb⟩; clear hb)
        | (refine atAlloc _ ?_; refine wpList_run rfl _ _ (exec_alloc 26 rfl _ zeroSt) ?_)
        | (refine atStore _ ?_; refine wpList_newRow x2 (sa zs) SZ HSZI.out.1 HSZI.out.2.1 HSZI.out.2.2.1 rfl _ _ rfl rfl rfl rfl ?_; intro x3 h3 hb3; have H3 : Box (Below w1.heap.size w1 x3) := ⟨below_to H2.out hb3⟩; clear h3 hb3))
      have HN2 : Box (∀ x, Calls Tryd.prog 23 #[.pointer none, .agg S1, .int .u64 1] x fun e w' => e = .returned (.tuple #[]) ∧ Below x.heap.size x w') := ⟨fun x => by have := adopt_nil x ⟨0, 1, z32⟩ 1; rw [HS1.out] at this; exact this⟩
      go_upto_region 9 with (first
        | (refine atBuild _ ?_; refine wpList_run rfl _ _ (exec_built 26 [(1, .const (.int .u64 1))] rfl [(1, .int .u64 1)] rfl S1 (by rw [← HS1.out]; exact built_St2)) ?_)
        | (go_at_call 23; refine (HN2.out _).mono ?_; rintro e x4 ⟨rfl, hb⟩; have H4 : Box (Below w1.heap.size w1 x4) := ⟨below_to H3.out hb⟩; clear hb))
      have HN3 : Box (∀ x, Calls Tryd.prog 15 #[.pointer none] x fun e w' => e = .returned (.tuple #[.agg SZ, .int .u64 0]) ∧ Below x.heap.size x w') := ⟨fun x => by have := state_nil x; rw [HSZ.out] at this; exact this⟩
      go_upto_region 10 with (first
        | (go_at_call 15; refine (HN3.out _).mono ?_; rintro e x5 ⟨rfl, hb⟩; have H5 : Box (Below w1.heap.size w1 x5) := ⟨below_to H4.out hb⟩; clear hb)
        | (refine atAlloc _ ?_; refine wpList_run rfl _ _ (exec_alloc 26 rfl _ zeroSt) ?_)
        | (refine atStore _ ?_; refine wpList_newRow x5 (sa zs) SZ HSZI.out.1 HSZI.out.2.1 HSZI.out.2.2.1 rfl _ _ rfl rfl rfl rfl ?_; intro x6 h6 hb6; have H6 : Box (Below w1.heap.size w1 x6 ∧ x6.heap[x5.heap.size]? = some (.cells SZ 26 (0, 0))) := ⟨below_to H5.out hb6, h6⟩; clear h6 hb6))
      obtain ⟨S5, hS5⟩ : ∃ S5, x5.heap.size = S5 := ⟨_, rfl⟩
      (try simp only [hS5])
      have HR6 : Box (x6.rangeAt S5 0 (scs zs)) := ⟨by
        have := H6.out.2
        rw [hS5, ← HSZ.out] at this
        exact range_sa this⟩
      clear hS5 HN1 HN2 HN3
      have HN4 : Box (∀ x, Calls Tryd.prog 17 #[.pointer none] x fun e w' => e = .returned (.agg SZ) ∧ Below x.heap.size x w') := ⟨fun x => by have := empty_nil x; rw [HSZ.out] at this; exact this⟩
      have HEQ : Box ((!eqS zs zs) = false) := ⟨by rw [eqS_self]; rfl⟩
      go_upto_region 12 with (first
        | (refine atLoad 26 ?_; refine wpList_runG (by rfl) _ _ (exec_load_mid 26 _ _ rfl Tryd.underlying26 rfl S5 0 rfl (scs zs) HSZI.out.2.2.2.1 HR6.out) ?_; rw [HSZI.out.2.2.2.2])
        | (refine atBuild _ ?_; refine wpList_runG (by rfl) _ _ (exec_built 26 [] rfl [] rfl SZ (by rw [← HSZ.out]; exact built_St0)) ?_)
        | (refine atBin .neq 26 ?_; refine wpList_runG (by rfl) _ _ (exec_neSt _ _ _ rfl zs zs okS_zs okS_zs false HEQ.out (by rw [HSZ.out]; rfl) (by rw [HSZ.out]; rfl)) ?_)
        | (go_at_call 16; refine (room_nil _).mono ?_; rintro e x7 ⟨rfl, rfl⟩)
        | (go_at_call 17; refine (HN4.out _).mono ?_; rintro e x8 ⟨rfl, hb⟩; have H8 : Box (Below w1.heap.size w1 x8) := ⟨below_to H6.out.1 hb⟩; clear hb))
      clear HN4 HR6 H1 H2 H3 H4 H5 H6
      go_upto_region 13 with fail
      clear hwk
      obtain ⟨D, hD⟩ : ∃ D, x8.heap.size + 1 = D := ⟨_, rfl⟩
      have HD : Box (Calls Tryd.prog 9 #[.int .i64 (k : Int)] x8 fun e w' => e = .returned (.tuple #[.pointer (some ⟨D, 0, none⟩), .int .i64 0]) ∧ ∃ fp, Disk.Cx x8 w' D fp (Disk.dk0 k)) := ⟨by have := Disk.new_cx x8 k ⟨by have := HK9.out; omega, by have := HK9.out; omega⟩; rw [hD] at this; exact this⟩
      clear hD
      obtain ⟨d0, hd0⟩ : ∃ d0, Disk.dk0 k = d0 := ⟨_, rfl⟩
      rw [hd0] at HD
      have HD0 : Box (Up d0 ∧ d0.n = k ∧ d0.ops = [] ∧ d0.uw = [] ∧ d0.left = 0) := ⟨by rw [← hd0]; exact ⟨⟨rfl, rfl⟩, rfl, rfl, rfl, rfl⟩⟩
      clear hd0
      go_upto_region 14 with (go_at_call 9; refine HD.out.mono ?_; rintro e x9 ⟨rfl, fp9, hc⟩; have H9 : Box (Disk.Cx x8 x9 D fp9 d0) := ⟨hc⟩; clear hc)
      clear HD
      obtain ⟨S2, HS2⟩ : ∃ A, Box (sa ⟨at0, 0, z32⟩ = A) := ⟨_, ⟨rfl⟩⟩
      have HJN : Box (∀ x, Below x9.heap.size x9 x → Calls Tryd.prog 11 #[.pointer (some ⟨D, 0, none⟩), .agg AK, .int .i64 0, .int .i64 (k : Int), .agg S2, .int .u64 1, .int .u64 1099511627776] x fun e w' => ∃ J, e = .returned (.tuple #[.pointer (some ⟨J, 0, none⟩), .int .i64 0]) ∧ JC x8 w' J D fp9 ⟨K, 0, k, ⟨at0, 0, z32⟩, 1, 1099511627776⟩ d0 ∧ Below x.heap.size x w') := ⟨fun x hx => by
        have hx8 := HX.out x8 H8.out
        have := jnew_ok (H9.out.step hx) K HKI.out.2.2 0 k (by have := HK9.out; omega) (by rw [HD0.out.2.1]; omega) (by rw [HD0.out.2.1]; have := HK9.out; omega) ⟨at0, 0, z32⟩ ⟨len_z32, byt_z32, by have := HK9.out; show at0 ≤ _; omega, Nat.zero_le _⟩ (by have := HK9.out; simp [may]; omega) 1 1099511627776 ⟨by omega, by omega⟩ ⟨by omega, by omega⟩ hx8.2.1 hx8.2.2.1
        rw [HAK.out, HS2.out] at this
        exact this.mono fun e w' ⟨J, h1, h2, h3, _⟩ => ⟨J, h1, h2, h3⟩⟩
      have HRK : Box (∀ x, Below x9.heap.size x9 x → x.rangeAt S 0 (K.map (Value.int .u8))) := ⟨fun x hx => (HX.out x (below_to H8.out (below_to H9.out.bel hx))).1⟩
      refine begin_keep (S := fun x => Below x9.heap.size x9 x) (by kernel_rfl) (fun wd hwd => ?_)
      have hbd : Below x9.heap.size x9 wd := by rw [hwd]; exact (Below.refl _ _).drew
      have hS := hbd
      clear hwd
      refine take_s (i := 0) (v := ?_) rfl (by kernel_rfl) (by kernel_rfl) (by kernel_rfl) (fun _ _ _ h => h) (by rfl) ?_ hS ?_
      rotate_left
      · intro w' hLat; clear hLat; go_simp <;> with_reducible rfl
      try simp only [Act.put, List.setIfInBounds_toArray, List.set_cons_zero, List.set_cons_succ, List.getElem_toArray, List.getElem_cons_zero]
      refine take_s (i := 1) (v := .agg AK) rfl (by kernel_rfl) (by kernel_rfl) (by kernel_rfl) (fun _ _ _ h => h) (by rfl) (fun w' hLat => by rw [← HKI.out.2.1]; exact exec_load_mid 23 _ _ rfl Tryd.underlying23 rfl S 0 rfl (K.map (Value.int .u8)) HKI.out.1 (HRK.out w' hLat)) hS ?_
      try simp only [Act.put, List.setIfInBounds_toArray, List.set_cons_zero, List.set_cons_succ, List.getElem_toArray, List.getElem_cons_zero, List.getElem_cons_succ]
      refine take_s (i := 2) (v := ?_) rfl (by kernel_rfl) (by kernel_rfl) (by kernel_rfl) (fun _ _ _ h => h) (by rfl) ?_ hS ?_
      rotate_left
      · intro w' hLat; clear hLat; go_simp <;> with_reducible rfl
      try simp only [Act.put, List.setIfInBounds_toArray, List.set_cons_zero, List.set_cons_succ, List.getElem_toArray, List.getElem_cons_zero, List.getElem_cons_succ]
      refine take_s (i := 3) (v := ?_) rfl (by kernel_rfl) (by kernel_rfl) (by kernel_rfl) (fun _ _ _ h => h) (by rfl) ?_ hS ?_
      rotate_left
      · intro w' hLat; clear hLat; go_simp <;> with_reducible rfl
      try simp only [Act.put, List.setIfInBounds_toArray, List.set_cons_zero, List.set_cons_succ, List.getElem_toArray, List.getElem_cons_zero, List.getElem_cons_succ]
      refine take_s (i := 4) (v := .int .u64 (st : Int)) rfl (by kernel_rfl) (by kernel_rfl) (by kernel_rfl) (fun _ _ _ h => h) (by rfl) (fun w' hLat => exec_u8u64 _ rfl _ HWS.out.1 rfl) hS ?_
      try simp only [Act.put, List.setIfInBounds_toArray, List.set_cons_zero, List.set_cons_succ, List.getElem_toArray, List.getElem_cons_zero, List.getElem_cons_succ]
      refine take_s (i := 5) (v := ?_) rfl (by kernel_rfl) (by kernel_rfl) (by kernel_rfl) (fun _ _ _ h => h) (by rfl) ?_ hS ?_
      rotate_left
      · intro w' hLat; clear hLat; go_simp <;> with_reducible rfl
      try simp only [Act.put, List.setIfInBounds_toArray, List.set_cons_zero, List.set_cons_succ, List.getElem_toArray, List.getElem_cons_zero, List.getElem_cons_succ]
      refine take_s (i := 6) (v := .int .u64 (k : Int)) rfl (by kernel_rfl) (by kernel_rfl) (by kernel_rfl) (fun _ _ _ h => h) (by rfl) (fun w' hLat => exec_intu64 _ rfl _ HWS.out.2.1 rfl) hS ?_
      try simp only [Act.put, List.setIfInBounds_toArray, List.set_cons_zero, List.set_cons_succ, List.getElem_toArray, List.getElem_cons_zero, List.getElem_cons_succ]
      refine take_s (i := 7) (v := .int .u64 (at0 : Int)) rfl (by kernel_rfl) (by kernel_rfl) (by kernel_rfl) (fun _ _ _ h => h) (by rfl) (fun w' hLat => exec_remU _ _ _ rfl _ _ _ HWS.out.2.2.1 HWS.out.2.2.2 rfl rfl) hS ?_
      try simp only [Act.put, List.setIfInBounds_toArray, List.set_cons_zero, List.set_cons_succ, List.getElem_toArray, List.getElem_cons_zero, List.getElem_cons_succ]
      refine take_s (i := 8) (v := .agg S2) rfl (by kernel_rfl) (by kernel_rfl) (by kernel_rfl) (fun _ _ _ h => h) (by rfl) (fun w' hLat => exec_built 26 [(0, .tmp 95)] rfl [(0, .int .u64 (at0 : Int))] rfl S2 (by rw [← HS2.out]; exact built_St1 at0)) hS ?_
      try simp only [Act.put, List.setIfInBounds_toArray, List.set_cons_zero, List.set_cons_succ, List.getElem_toArray, List.getElem_cons_zero, List.getElem_cons_succ]
      refine one_keep (i := 9) (by kernel_rfl) ?_
      refine keep_step rfl (by rfl) ?_
      go_simp
      refine Calls.mono (HJN.out wd hS) ?_
      rintro e x10 ⟨J, rfl, hc, hb10⟩
      have H10 : Box (JC x8 x10 J D fp9 ⟨K, 0, k, ⟨at0, 0, z32⟩, 1, 1099511627776⟩ d0) := ⟨hc⟩
      clear hc
      have hS9 := hS
      have hS : Below x9.heap.size x9 x10 := below_to hS9 hb10
      refine ⟨hS, ?_⟩
      try simp only [Act.put, List.setIfInBounds_toArray, List.set_cons_zero, List.set_cons_succ, List.getElem_toArray, List.getElem_cons_zero, List.getElem_cons_succ]
      refine take_s (i := 10) (v := ?_) rfl (by kernel_rfl) (by kernel_rfl) (by kernel_rfl) (fun _ _ _ h => h) (by rfl) ?_ hS ?_
      rotate_left
      · intro w' hLat; clear hLat; go_simp <;> with_reducible rfl
      try simp only [Act.put, List.setIfInBounds_toArray, List.set_cons_zero, List.set_cons_succ, List.getElem_toArray, List.getElem_cons_zero, List.getElem_cons_succ]
      refine take_s (i := 11) (v := ?_) rfl (by kernel_rfl) (by kernel_rfl) (by kernel_rfl) (fun _ _ _ h => h) (by rfl) ?_ hS ?_
      rotate_left
      · intro w' hLat; clear hLat; go_simp <;> with_reducible rfl
      try simp only [Act.put, List.setIfInBounds_toArray, List.set_cons_zero, List.set_cons_succ, List.getElem_toArray, List.getElem_cons_zero, List.getElem_cons_succ]
      refine take_s (i := 12) (v := ?_) rfl (by kernel_rfl) (by kernel_rfl) (by kernel_rfl) (fun _ _ _ h => h) (by rfl) ?_ hS ?_
      rotate_left
      · intro w' hLat; clear hLat; go_simp <;> with_reducible rfl
      try simp only [Act.put, List.setIfInBounds_toArray, List.set_cons_zero, List.set_cons_succ, List.getElem_toArray, List.getElem_cons_zero, List.getElem_cons_succ]
      refine take_s (i := 13) (v := ?_) rfl (by kernel_rfl) (by kernel_rfl) (by kernel_rfl) (fun _ _ _ h => h) (by rfl) ?_ hS ?_
      rotate_left
      · intro w' hLat; clear hLat; go_simp <;> with_reducible rfl
      try simp only [Act.put, List.setIfInBounds_toArray, List.set_cons_zero, List.set_cons_succ, List.getElem_toArray, List.getElem_cons_zero, List.getElem_cons_succ]
      refine take_s (i := 14) (v := ?_) rfl (by kernel_rfl) (by kernel_rfl) (by kernel_rfl) (fun _ _ _ h => h) (by rfl) ?_ hS ?_
      rotate_left
      · intro w' hLat; clear hLat; go_simp <;> with_reducible rfl
      try simp only [Act.put, List.setIfInBounds_toArray, List.set_cons_zero, List.set_cons_succ, List.getElem_toArray, List.getElem_cons_zero, List.getElem_cons_succ]
      refine wpAnyH_done (by kernel_rfl) ?_ _
      have HXX : Box (∀ x, Below x8.heap.size x8 x → Imgs x a M ∧ Imgs x b N ∧ Below w.heap.size w x) := ⟨fun x hx => ⟨(HX.out x (below_to H8.out hx)).2.2.2.1, (HX.out x (below_to H8.out hx)).2.2.2.2.1, (HX.out x (below_to H8.out hx)).2.2.2.2.2⟩⟩
      clear HX HRK HJN H8 H9 hbd hS9 hb10 HKI HS HS1 HS2 HAK HWS
      clear hS
      go_upto_region 17 with fail
      obtain ⟨j0, hj0⟩ : ∃ j0 : Jt, (⟨K, 0, k, ⟨at0, 0, z32⟩, 1, 1099511627776⟩ : Jt) = j0 := ⟨_, rfl⟩
      rw [hj0] at H10
      obtain ⟨L1, hL1⟩ : ∃ L, imgP false (M.map pl) = L := ⟨_, rfl⟩
      have HL1 : Box (imgP false (M.map pl) = L1 ∧ L1.length = na ∧ ∀ x ∈ L1, x.2.length = 160) := ⟨hL1, by rw [← hL1, len_imgP, List.length_map]; exact HLN.out.1, by rw [← hL1]; exact imgP_len false _ rfl⟩
      have HJ0 : Box (j0.first = 0 ∧ j0.size = k ∧ j0.st = ⟨at0, 0, z32⟩ ∧ j0.nx = 1 ∧ j0.lim = 1099511627776 ∧ j0.key = K) := ⟨by rw [← hj0]; exact ⟨rfl, rfl, rfl, rfl, rfl, rfl⟩⟩
      have hc1 := cnt_of j0 H10.out.ok HJ0.out.1 d0 HD0.out.1 HD0.out.2.2.2.1 L1 HL1.out.2.2 (by rw [HL1.out.2.1]; have := HK9.out; omega) (by rw [HL1.out.2.1, HJ0.out.2.2.2.1, HJ0.out.2.2.2.2.1]; have := HK9.out; omega)
      have hu1 : 0 < na → na ≤ k → ApU j0 d0 j0.nx j0.st na (appM j0 d0 L1) := fun h1 h2 => by
        have := appM_up j0 H10.out.ok d0 L1 HD0.out.1 (bad_160 L1 HL1.out.2.2 (by rw [HL1.out.2.1]; exact h1)) (by rw [HL1.out.2.1, HJ0.out.2.2.1, HJ0.out.2.1]; show 0 + na ≤ k; omega) (by rw [HL1.out.2.1, HJ0.out.2.2.2.1, HJ0.out.2.2.2.2.1]; have := HK9.out; omega)
        rw [HL1.out.2.1] at this
        exact this
      obtain ⟨y1, hy1⟩ : ∃ y, appM j0 d0 L1 = y := ⟨_, rfl⟩
      rw [hy1, HL1.out.2.1] at hc1
      rw [hy1] at hu1
      obtain ⟨d1, nx1, e1, s1⟩ := y1
      have HC1 : Box (Cnt j0.size j0.st.count j0.st.start na d0 (d1, nx1, e1, s1) ∧ (0 < na → na ≤ k → ApU j0 d0 j0.nx j0.st na (d1, nx1, e1, s1)) ∧ appM j0 d0 L1 = (d1, nx1, e1, s1)) := ⟨hc1, hu1, hy1⟩
      have HE1 : Box (e1 = if na = 0 then 1 else if k < na then 17 else 0) := ⟨by
        have := hc1.err
        rw [HJ0.out.2.1, HJ0.out.2.2.1] at this
        exact this⟩
      clear hc1 hu1 hy1 hL1 hj0
      have HIM1 : Box (Calls Tryd.prog 24 #[.slice a na ca, .bool false] x10 fun e w' => ∃ xa xc X, e = .returned (.slice xa na xc) ∧ Ig x10 w' false M na (.slice xa na xc) X) := ⟨by
        have := images_any a ca M false x10 (HXX.out x10 H10.out.cx.bel).1 (by rw [HLN.out.1]; have := HK9.out; omega)
        rw [HLN.out.1] at this
        refine this.mono ?_
        rintro e w' ⟨v, X, rfl, h⟩
        have hr := h.im.row
        rw [h.len] at hr
        obtain ⟨xa, xc, rfl⟩ := own_form2 hr
        exact ⟨xa, xc, X, rfl, h⟩⟩
      have HAP1 : Box (∀ x xa xc X, Ig x10 x false M na (.slice xa na xc) X → Calls Tryd.prog 22 #[.pointer (some ⟨J, 0, none⟩), .slice xa na xc] x fun e w' => ∃ fp', e = .returned (.tuple #[.agg (sa s1), .int .i64 e1]) ∧ JC x8 w' J D fp' { j0 with nx := nx1 } d1) := ⟨fun x xa xc X h => by
        have hi := h.im
        have hl := h.len
        have hp : X.map pl = L1 := by
          rw [h.pls, HL1.out.1]
          exact List.take_of_length_le (by rw [HL1.out.2.1]; exact Nat.le_refl _)
        rw [← hl] at hi
        have hmx : ∀ m ∈ X, m.bl ≤ 100000 := fun m hm => by
          have h1 : pl m ∈ L1 := by rw [← hp]; exact List.mem_map_of_mem hm
          have h2 := HL1.out.2.2 _ h1
          have h3 := (h.im.byt m hm).byi.1.1
          simp only [pl] at h2
          omega
        have := append_v (H10.out.below h.bel) xa xc X hi.imgs (by rw [hl]; have := HK9.out; omega) hmx (by rw [HD0.out.2.2.2.2]; decide) (by rw [HD0.out.2.2.1]; simp) (by rw [HD0.out.2.2.2.1]; simp)
        rw [hl, hp, HC1.out.2.2] at this
        exact this.mono fun e w' ⟨fp', h1, h2, _⟩ => ⟨fp', h1, h2⟩⟩
      have oks1 : OkS s1 := HC1.out.1.ok
      have HIS : Box ((Tryd.prog.info? 26).map (·.size) = some (sa s1).size ∧ (sa zs).size = (sa s1).size ∧ (Tryd.prog.info? 26).map (·.size) = some (scs s1).length ∧ (scs s1).toArray = sa s1 ∧ OkS s1) := ⟨by rw [size_sa oks1]; exact infoSt, by rw [size_sa oks1, size_sa okS_zs], by rw [len_scs oks1]; exact infoSt, rfl, oks1⟩
      clear oks1
      go_upto_region 18 with (first
        | (go_at_call 24; refine HIM1.out.mono ?_; rintro e x11 ⟨xa, xc, X, rfl, hg⟩; have H11 : Box (Ig x10 x11 false M na (.slice xa na xc) X) := ⟨hg⟩; clear hg)
        | (go_at_call 22; refine (HAP1.out x11 xa xc X H11.out).mono ?_; rintro e x12 ⟨fp12, rfl, hc⟩; have H12 : Box (JC x8 x12 J D fp12 { j0 with nx := nx1 } d1) := ⟨hc⟩; clear hc)
        | (refine atAlloc _ ?_; refine wpList_run rfl _ _ (exec_alloc 26 rfl _ zeroSt) ?_)
        | (refine atStore _ ?_; refine wpList_newRow x12 (sa zs) (sa s1) HIS.out.1 HIS.out.2.1 (all_sa s1) rfl _ _ rfl rfl rfl rfl ?_; intro x13 h13 hb13; have H13 : Box (x13.heap[x12.heap.size]? = some (.cells (sa s1) 26 (0, 0)) ∧ Below x12.heap.size x12 x13) := ⟨h13, hb13⟩; clear h13 hb13))
      clear HIM1 HAP1 H10 H11
      obtain ⟨S12, hS12⟩ : ∃ S12, x12.heap.size = S12 := ⟨_, rfl⟩
      (try simp only [hS12])
      have H13a : Box (JC x8 x13 J D fp12 { j0 with nx := nx1 } d1 ∧ x13.heap[S12]? = some (.cells (sa s1) 26 (0, 0)) ∧ ¬ fp12 S12 ∧ S12 ≠ J ∧ S12 < x13.heap.size) := ⟨H12.out.below H13.out.2, by rw [← hS12]; exact H13.out.1, fun h => by have := H12.out.cx.hi S12 h; omega, fun e => by have := H12.out.lt; omega, by rw [← hS12]; exact (Array.getElem?_eq_some_iff.1 H13.out.1).1⟩
      clear hS12 H13 H12
      have HF13 : Box (Below w.heap.size w x13) := ⟨(HXX.out x13 H13a.out.1.cx.bel).2.2⟩
      by_cases hz : na = 0
      · have e1z : e1 = 1 := by rw [HE1.out, if_pos hz]
        subst e1z
        clear HE1
        subst hz
        go_wp2
        all_goals first | (go_ret; exact ⟨rfl, HF13.out⟩) | (exfalso; omega) | (exfalso; simp_all; done)
      · have hzb : ((na : Int) == 0) = false := by simp; omega
        by_cases hgt : k < na
        · have e1z : e1 = 17 := by rw [HE1.out, if_neg hz, if_pos hgt]
          subst e1z
          have hgb : decide (k < na) = true := by simpa using hgt
          have hz2 : ¬ (na : Int) = 0 := by omega
          clear HE1
          go_wp2
          all_goals first | (go_ret; exact ⟨rfl, HF13.out⟩) | (exfalso; omega) | (exfalso; simp_all; done)
        · have e1z : e1 = 0 := by rw [HE1.out, if_neg hz, if_neg hgt]
          subst e1z
          have HAU : Box (ApU j0 d0 j0.nx j0.st na (d1, nx1, 0, s1) ∧ 1 ≤ na ∧ na ≤ k) := ⟨HC1.out.2.1 (by omega) (by omega), by omega, by omega⟩
          clear HE1 HF13
          go_upto_region 20 with fail
          clear hz hgt hzb
          obtain ⟨j1', hj1⟩ : ∃ j', adp { j0 with nx := nx1 } s1 1099511627776 = j' := ⟨_, rfl⟩
          have HS1F : Box (s1.start = at0 ∧ s1.count = na ∧ nx1 = 1 + (na : Int) ∧ Up d1 ∧ d1.n = k ∧ d1.ops.length = na ∧ d1.uw.length = na ∧ d1.left = 0) := ⟨by
            have h := HAU.out.1
            have h0 := HJ0.out
            have hd := HD0.out
            have hst : s1.start = j0.st.start := h.st
            have hct : s1.count = j0.st.count + na := h.ct
            have hnx : nx1 = j0.nx + (na : Int) := h.nx
            obtain ⟨W, hW1, hW2⟩ := h.uw
            have hWl : W.length = na := by have := congrArg List.length hW2; simpa [pls] using this
            rw [h0.2.2.1] at hst hct
            simp only [Nat.zero_add] at hct
            refine ⟨hst, hct, by rw [hnx, h0.2.2.2.1], h.up, by rw [show d1.n = _ from h.nn]; exact hd.2.1, by rw [show d1.ops = _ from h.ops, hd.2.2.1]; simp [pls], by rw [show d1.uw = _ from hW1, hd.2.2.2.1, List.nil_append, hWl], by rw [show d1.left = _ from h.left]; exact hd.2.2.2.2⟩⟩
          have HJ1 : Box (adp { j0 with nx := nx1 } s1 1099511627776 = j1' ∧ j1'.Ok ∧ j1'.st = s1 ∧ j1'.size = k ∧ j1'.first = 0 ∧ j1'.nx = nx1 ∧ j1'.lim = 1099511627776) := ⟨by
            have hm1 : may ({ j0 with nx := nx1 } : Jt).size s1 = true := by
              have h1 := HS1F.out.1
              have h2 := HS1F.out.2.1
              have h3 := HJ0.out.2.1
              have := HK9.out
              have := HAU.out
              simp [may, h1, h2, h3]
              omega
            have e1 : j1' = { j0 with nx := nx1, st := s1, lim := mn63 1099511627776 } := by
              rw [← hj1]
              unfold adp
              rw [if_pos hm1]
            refine ⟨hj1, by rw [← hj1]; exact ok_adp H13a.out.1.ok HIS.out.2.2.2.2 (by omega), by rw [e1], by rw [e1]; exact HJ0.out.2.1, by rw [e1]; exact HJ0.out.1, by rw [e1], by rw [e1]; rfl⟩⟩
          clear hj1
          -- adopted, flushed, told
          have HAD : Box (Calls Tryd.prog 23 #[.pointer (some ⟨J, 0, none⟩), .agg (sa s1), .int .u64 1099511627776] x13 fun e w' => e = .returned (.tuple #[]) ∧ JC x8 w' J D fp12 j1' d1 ∧ Fw (fun i => i = J) x13 w' fp12 fp12) := ⟨by
            have := adopt_v H13a.out.1 s1 HIS.out.2.2.2.2 1099511627776 ⟨by decide, by decide⟩
            rw [HJ1.out.1] at this
            exact this⟩
          have HRS : Box (x13.rangeAt S12 0 (scs s1)) := ⟨range_sa H13a.out.2.1⟩
          go_upto_region 21 with (first
            | (refine atLoad 26 ?_; refine wpList_ldMid rfl 26 _ _ rfl Tryd.underlying26 rfl S12 0 rfl (scs s1) HIS.out.2.2.1 HRS.out ?_; rw [HIS.out.2.2.2.1])
            | (go_at_call 23; refine HAD.out.mono ?_; rintro e z1 ⟨rfl, hc, hf⟩; have G1 : Box (JC x8 z1 J D fp12 j1' d1 ∧ Fw (fun i => i = J) x13 z1 fp12 fp12) := ⟨hc, hf⟩; clear hc hf))
          clear HAD HRS
          have HFL : Box (Calls Tryd.prog 25 #[.pointer (some ⟨D, 0, none⟩)] z1 fun e w' => e = .returned (.int .i64 0) ∧ ∃ fp', JC x8 w' J D fp' j1' (Disk.flOk d1) ∧ Fw (fun i => i = J) x13 w' fp12 fp') := ⟨by
            refine (Disk.flush_cx G1.out.1.cx HS1F.out.2.2.2.1.1 (by have := HS1F.out; have := HK9.out; omega) (by have := HS1F.out; have := HK9.out; omega)).mono ?_
            rintro e w' ⟨h1, fp', h2, h3⟩
            exact ⟨h1, fp', G1.out.1.fol h2 h3 rfl, G1.out.2.trans (Fw.of_fol h3 _)⟩⟩
          go_upto_region 22 with (go_at_call 25; refine HFL.out.mono ?_; rintro e z2 ⟨rfl, fpz2, hc, hf⟩; have G2 : Box (JC x8 z2 J D fpz2 j1' (Disk.flOk d1) ∧ Fw (fun i => i = J) x13 z2 fp12 fpz2) := ⟨hc, hf⟩; clear hc hf)
          clear HFL G1
          obtain ⟨d2, hd2⟩ : ∃ d2, Disk.flOk d1 = d2 := ⟨_, rfl⟩
          rw [hd2] at G2
          have HD2 : Box (Up d2 ∧ d2.n = k ∧ d2.ops.length ≤ 20 ∧ d2.uw = [] ∧ d2.left = 0) := ⟨by
            have h := HS1F.out
            have hk := HK9.out
            rw [← hd2]
            exact ⟨h.2.2.2.1, h.2.2.2.2.1, by show (d1.ops ++ [(3, 0)]).length ≤ 20; rw [List.length_append]; simp; omega, rfl, h.2.2.2.2.2.2.2⟩⟩
          clear hd2
          have HIG : Box (Calls Tryd.prog 26 #[.pointer (some ⟨D, 0, none⟩)] z2 fun e w' => ∃ g, e = .returned (.slice (some ⟨g, 0, none⟩) k k) ∧ Below z2.heap.size z2 w' ∧ Img2 w' z2.heap.size g k d2.pl) := ⟨by
            have := image_v G2.out.1.cx
            rw [HD2.out.2.1] at this
            exact this⟩
          go_upto_region 23 with (go_at_call 26; refine HIG.out.mono ?_; rintro e z3 ⟨gw, rfl, hb, hi⟩; have G3 : Box (JC x8 z3 J D fpz2 j1' d2 ∧ Img2 z3 z2.heap.size gw k d2.pl ∧ Below z2.heap.size z2 z3) := ⟨G2.out.1.below hb, hi, hb⟩; clear hb hi)
          clear HIG
          have G3s : Box (z3.heap[S12]? = some (.cells (sa s1) 26 (0, 0)) ∧ ¬ fpz2 S12 ∧ S12 < z2.heap.size) := ⟨by
            have h := H13a.out
            have hf := G2.out.2
            have e1 := hf.block (k := S12) h.2.2.2.2 h.2.2.1 h.2.2.2.1
            have hl : S12 < z2.heap.size := Nat.lt_of_lt_of_le h.2.2.2.2 hf.size
            exact ⟨(G3.out.2.2.block S12 hl).trans (e1.trans h.2.1), hf.k S12 h.2.2.2.2 h.2.2.1, hl⟩⟩
          -- appended again
          obtain ⟨L2, hL2⟩ : ∃ L, imgP false (N.map pl) = L := ⟨_, rfl⟩
          have HL2 : Box (imgP false (N.map pl) = L2 ∧ L2.length = nb ∧ ∀ x ∈ L2, x.2.length = 160) := ⟨hL2, by rw [← hL2, len_imgP, List.length_map]; exact HLN.out.2, by rw [← hL2]; exact imgP_len false _ rfl⟩
          have hc2 := cnt_of j1' HJ1.out.2.1 HJ1.out.2.2.2.2.1 d2 HD2.out.1 HD2.out.2.2.2.1 L2 HL2.out.2.2 (by rw [HL2.out.2.1]; have := HK9.out; omega) (by rw [HL2.out.2.1, HJ1.out.2.2.2.2.2.1, HJ1.out.2.2.2.2.2.2]; have := HK9.out; have := HS1F.out; omega)
          obtain ⟨y2, hy2⟩ : ∃ y, appM j1' d2 L2 = y := ⟨_, rfl⟩
          rw [hy2, HL2.out.2.1, HJ1.out.2.2.2.1, HJ1.out.2.2.1, HS1F.out.1, HS1F.out.2.1] at hc2
          obtain ⟨d3, nx3, e3, s3⟩ := y2
          have HC2 : Box (Cnt k na at0 nb d2 (d3, nx3, e3, s3) ∧ appM j1' d2 L2 = (d3, nx3, e3, s3)) := ⟨hc2, hy2⟩
          have he3 : e3 = if nb = 0 then 1 else if k - na < nb then 17 else 0 := hc2.err
          clear hc2 hy2 hL2
          have HE3 : Box (e3 = if nb = 0 then 1 else if k - na < nb then 17 else 0) := ⟨he3⟩
          clear he3
          have HIM2 : Box (Calls Tryd.prog 24 #[.slice b nb cb, .bool false] z3 fun e w' => ∃ xa xc X, e = .returned (.slice xa nb xc) ∧ Ig z3 w' false N nb (.slice xa nb xc) X) := ⟨by
            have := images_any b cb N false z3 (HXX.out z3 G3.out.1.cx.bel).2.1 (by rw [HLN.out.2]; have := HK9.out; omega)
            rw [HLN.out.2] at this
            refine this.mono ?_
            rintro e w' ⟨v, X, rfl, h⟩
            have hr := h.im.row
            rw [h.len] at hr
            obtain ⟨xa, xc, rfl⟩ := own_form2 hr
            exact ⟨xa, xc, X, rfl, h⟩⟩
          have HAP2 : Box (∀ x xa xc X, Ig z3 x false N nb (.slice xa nb xc) X → Calls Tryd.prog 22 #[.pointer (some ⟨J, 0, none⟩), .slice xa nb xc] x fun e w' => ∃ fp', e = .returned (.tuple #[.agg (sa s3), .int .i64 e3]) ∧ JC x8 w' J D fp' { j1' with nx := nx3 } d3 ∧ Fw (fun i => i = J) z3 w' fpz2 fp') := ⟨fun x xa xc X h => by
            have hi := h.im
            have hl := h.len
            have hp : X.map pl = L2 := by
              rw [h.pls, HL2.out.1]
              exact List.take_of_length_le (by rw [HL2.out.2.1]; exact Nat.le_refl _)
            rw [← hl] at hi
            have hmx : ∀ m ∈ X, m.bl ≤ 100000 := fun m hm => by
              have h1 : pl m ∈ L2 := by rw [← hp]; exact List.mem_map_of_mem hm
              have h2 := HL2.out.2.2 _ h1
              have h3 := (h.im.byt m hm).byi.1.1
              simp only [pl] at h2
              omega
            have := append_v (G3.out.1.below h.bel) xa xc X hi.imgs (by rw [hl]; have := HK9.out; omega) hmx (by rw [HD2.out.2.2.2.2]; decide) (by have := HD2.out.2.2.1; omega) (by rw [HD2.out.2.2.2.1]; simp)
            rw [hl, hp, HC2.out.2] at this
            exact this.mono fun e w' ⟨fp', h1, h2, h3⟩ => ⟨fp', h1, h2, (Fw.below _ fpz2 h.bel).trans h3⟩⟩
          have oks3 : OkS s3 := HC2.out.1.ok
          have HI3 : Box ((Tryd.prog.info? 26).map (·.size) = some (sa s3).size ∧ (sa zs).size = (sa s3).size) := ⟨by rw [size_sa oks3]; exact infoSt, by rw [size_sa oks3, size_sa okS_zs]⟩
          clear oks3
          go_upto_region 24 with (first
            | (go_at_call 24; refine HIM2.out.mono ?_; rintro e z4 ⟨xa2, xc2, X2, rfl, hg⟩; have G4 : Box (Ig z3 z4 false N nb (.slice xa2 nb xc2) X2) := ⟨hg⟩; clear hg)
            | (go_at_call 22; refine (HAP2.out z4 xa2 xc2 X2 G4.out).mono ?_; rintro e z5 ⟨fpz5, rfl, hc, hf⟩; have G5 : Box (JC x8 z5 J D fpz5 { j1' with nx := nx3 } d3 ∧ Fw (fun i => i = J) z3 z5 fpz2 fpz5) := ⟨hc, hf⟩; clear hc hf)
            | (refine atAlloc _ ?_; refine wpList_run rfl _ _ (exec_alloc 26 rfl _ zeroSt) ?_)
            | (refine atStore _ ?_; refine wpList_newRow z5 (sa zs) (sa s3) HI3.out.1 HI3.out.2 (all_sa s3) rfl _ _ rfl rfl rfl rfl ?_; intro z6 h6 hb6; have G6 : Box (JC x8 z6 J D fpz5 { j1' with nx := nx3 } d3 ∧ Fw (fun i => i = J) z3 z6 fpz2 fpz5) := ⟨G5.out.1.below hb6, G5.out.2.trans (Fw.below _ fpz5 hb6)⟩; clear h6 hb6))
          clear HIM2 HAP2 G4 G5 HI3
          have HFL : Box (Calls Tryd.prog 25 #[.pointer (some ⟨D, 0, none⟩)] z6 fun e w' => e = .returned (.int .i64 0) ∧ ∃ fp', JC x8 w' J D fp' { j1' with nx := nx3 } (Disk.flOk d3) ∧ Fw (fun i => i = J) z3 w' fpz2 fp') := ⟨by
            have h := HC2.out.1
            have h1 : d3.ops.length ≤ d2.ops.length + nb := h.ops
            have h2 : d3.uw.length ≤ nb := h.uw
            have hk := HK9.out
            have hd := HD2.out
            refine (Disk.flush_cx G6.out.1.cx h.up.1 (by omega) (by omega)).mono ?_
            rintro e w' ⟨h1, fp', h2, h3⟩
            exact ⟨h1, fp', G6.out.1.fol h2 h3 rfl, G6.out.2.trans (Fw.of_fol h3 _)⟩⟩
          go_upto_region 25 with (go_at_call 25; refine HFL.out.mono ?_; rintro e z7 ⟨rfl, fpz7, hc, hf⟩; have G7 : Box (JC x8 z7 J D fpz7 { j1' with nx := nx3 } (Disk.flOk d3) ∧ Fw (fun i => i = J) z3 z7 fpz2 fpz7) := ⟨hc, hf⟩; clear hc hf)
          clear HFL G6
          obtain ⟨d4, hd4⟩ : ∃ d4, Disk.flOk d3 = d4 := ⟨_, rfl⟩
          rw [hd4] at G7
          have HD4 : Box (d4.n = k ∧ ∀ i, i < na → d4.pl ((at0 + i) % k) = d2.pl ((at0 + i) % k)) := ⟨by
            have h := HC2.out.1
            have h1 : d3.n = d2.n := h.nn
            rw [← hd4]
            exact ⟨by show d3.n = k; rw [h1]; exact HD2.out.2.1, h.keeps⟩⟩
          clear hd4
          have HIG : Box (Calls Tryd.prog 26 #[.pointer (some ⟨D, 0, none⟩)] z7 fun e w' => ∃ g, e = .returned (.slice (some ⟨g, 0, none⟩) k k) ∧ Below z7.heap.size z7 w' ∧ Img2 w' z7.heap.size g k d4.pl) := ⟨by
            have := image_v G7.out.1.cx
            rw [HD4.out.1] at this
            exact this⟩
          go_upto_region 26 with (go_at_call 26; refine HIG.out.mono ?_; rintro e z8 ⟨gn, rfl, hb, hi⟩; have G8 : Box (JC x8 z8 J D fpz7 { j1' with nx := nx3 } d4 ∧ Img2 z8 z7.heap.size gn k d4.pl ∧ Below z7.heap.size z7 z8) := ⟨G7.out.1.below hb, hi, hb⟩; clear hb hi)
          clear HIG
          have HW8 : Box (Img2 z8 z2.heap.size gw k d2.pl ∧ z8.heap[S12]? = some (.cells (sa s1) 26 (0, 0))) := ⟨by
            have hf : Fw (fun i => i = J) z3 z8 fpz2 fpz7 := G7.out.2.trans (Fw.below _ fpz7 G8.out.2.2)
            have hJl : J < z2.heap.size := G2.out.1.lt
            refine ⟨G3.out.2.1.keep hf.size (fun bb h1 h2 => hf.block h2 (fun h => by have := G2.out.1.cx.hi bb h; omega) (by omega)), ?_⟩
            have hs := G3s.out
            have h23 := G3.out.2.2.size
            have hSJ := H13a.out.2.2.2.1
            exact (hf.block (k := S12) (by omega) hs.2.1 hSJ).trans hs.1⟩
          have HEND : Box (∀ x, Below z8.heap.size z8 x → Below w.heap.size w x) := ⟨fun x hx => (HXX.out x (below_to G8.out.1.cx.bel hx)).2.2⟩
          clear G2 G3 G3s G7 H13a
          have HCE : Box (∀ x, Below z8.heap.size z8 x → x.cell? ⟨S12, 0, none⟩ = some (.int .u64 (at0 : Int)) ∧ x.cell? ⟨S12, 1, none⟩ = some (.int .u64 (na : Int))) := ⟨fun x hx => by
            have hr := (hx.block S12 (Array.getElem?_eq_some_iff.1 HW8.out.2).1).trans HW8.out.2
            have h1 := HS1F.out.1
            have h2 := HS1F.out.2.1
            exact ⟨by rw [cell_of_row _ _ _ _ _ _ hr]; simp [sa, scs, h1], by rw [cell_of_row _ _ _ _ _ _ hr]; simp [sa, scs, h2]⟩⟩
          have hwku : IntKind.u64.wrap (k : Int) = (k : Int) := by rw [IntKind.wrap_u64]; have := HK9.out; omega
          have hkne : (k : Int) ≠ 0 := by have := HK9.out; omega
          go_wp2
          go_loopw [28] (fun i wr => ∃ i' : Nat, i' ≤ na ∧ i = .int .u64 (i' : Int) ∧ Box (Below z8.heap.size z8 wr)) (fun i _ => na - (intOf i).toNat)
          case atStart => exact ⟨0, Nat.zero_le _, rfl, ⟨Below.refl _ _⟩⟩
          case round =>
            obtain ⟨i, hin, rfl, HG⟩ := hrel
            obtain ⟨ce0, ce1⟩ := HCE.out wr HG.out
            by_cases hlt : i < na
            · have hd1 : decide (i < na) = true := by simpa using hlt
              obtain ⟨q, hq⟩ : ∃ q, (at0 + i) % k = q := ⟨_, rfl⟩
              have hqk : q < k := by rw [← hq]; exact Nat.mod_lt _ (by have := HK9.out; omega)
              have hwa : IntKind.u64.wrap ((at0 : Int) + (i : Int)) = ((at0 + i : Nat) : Int) := by rw [IntKind.wrap_u64]; have := HK9.out; omega
              have hwq : ((at0 + i : Nat) : Int).tmod (k : Int) = (q : Int) := by rw [← hq]; rfl
              have hwq2 : ((at0 : Int) + (i : Int)).tmod (k : Int) = (q : Int) := by rw [← hq]; rfl
              have hw4 : IntKind.u64.wrap ((i : Int) + 1) = ((i + 1 : Nat) : Int) := by rw [IntKind.wrap_u64]; have := HK9.out; omega
              have HLX : Box (i < na ∧ q < k) := ⟨hlt, hqk⟩
              obtain ⟨aw, cw, hw1', hw2', hw3', _⟩ := HW8.out.1.each q hqk
              obtain ⟨an, cn, hn1', hn2', hn3', _⟩ := G8.out.2.1.each q hqk
              have hpl := HD4.out.2 i hlt
              rw [hq] at hpl
              rw [hpl] at hn2'
              obtain ⟨BB, hBB⟩ : ∃ BB, d2.pl q = BB := ⟨_, rfl⟩
              rw [hBB] at hw2' hn2'
              have HRW : Box (∀ x, Below z8.heap.size z8 x → x.cell? ⟨gw, 0 + q * 1, none⟩ = some (.slice aw 192 cw) ∧ x.cell? ⟨gn, 0 + q * 1, none⟩ = some (.slice an 192 cn) ∧ Bytes x aw 192 BB ∧ Bytes x an 192 BB) := ⟨fun x hx => ⟨by rw [Nat.zero_add, Nat.mul_one]; exact (hx.cell HW8.out.1.gl).trans hw1', by rw [Nat.zero_add, Nat.mul_one]; exact (hx.cell G8.out.2.1.gl).trans hn1', hw2'.below hx, hn2'.below hx⟩⟩
              have HBB : Box (Byt BB) := ⟨hw2'.2.1⟩
              clear hw1' hw2' hw3' hn1' hn2' hn3' hpl hBB hq hqk hlt hin
              go_upto_region 30 with fail
              clear hwa hwq hwq2 ce0 ce1
              refine begin_keep (S := fun x => Below z8.heap.size z8 x) (by kernel_rfl) (fun wd hwd => ?_)
              have hS : Below z8.heap.size z8 wd := below_to HG.out (by rw [hwd]; exact (Below.refl _ _).drew)
              clear hwd
              refine take_s (i := 0) (v := ?_) rfl (by kernel_rfl) (by kernel_rfl) (by kernel_rfl) (fun _ _ _ h => h) (by rfl) ?_ hS ?_
              rotate_left
              · intro w' hLat; clear hLat; go_simp <;> with_reducible rfl
              try simp only [Act.put, List.setIfInBounds_toArray, List.set_cons_zero, List.set_cons_succ, List.getElem_toArray, List.getElem_cons_zero]
              refine take_s (i := 1) (v := ?_) rfl (by kernel_rfl) (by kernel_rfl) (by kernel_rfl) (fun _ _ _ h => h) (by rfl) ?_ hS ?_
              rotate_left
              · intro w' hLat; clear hLat; go_simp <;> with_reducible rfl
              try simp only [Act.put, List.setIfInBounds_toArray, List.set_cons_zero, List.set_cons_succ, List.getElem_toArray, List.getElem_cons_zero, List.getElem_cons_succ]
              refine take_s (i := 2) (v := .pointer (some ⟨gw, 0 + q * 1, none⟩)) rfl (by kernel_rfl) (by kernel_rfl) (by kernel_rfl) (fun _ _ _ h => h) (by rfl) (fun w' hLat => exec_idxTU 73 64 Tryd.underlying73 1 (by kernel_rfl) _ _ rfl gw 0 k k q rfl rfl HLX.out.2) hS ?_
              try simp only [Act.put, List.setIfInBounds_toArray, List.set_cons_zero, List.set_cons_succ, List.getElem_toArray, List.getElem_cons_zero, List.getElem_cons_succ]
              refine take_s (i := 3) (v := .slice aw 192 cw) rfl (by kernel_rfl) (by kernel_rfl) (by kernel_rfl) (fun _ _ _ h => h) (by rfl) (fun w' hLat => exec_load1 64 _ _ rfl Tryd.underlying64 rfl _ rfl _ (HRW.out w' hLat).1) hS ?_
              try simp only [Act.put, List.setIfInBounds_toArray, List.set_cons_zero, List.set_cons_succ, List.getElem_toArray, List.getElem_cons_zero, List.getElem_cons_succ]
              refine take_s (i := 4) (v := .string (strOfNums BB)) rfl (by kernel_rfl) (by kernel_rfl) (by kernel_rfl) (fun _ _ _ h => h) (by rfl) (fun w' hLat => Seal.exec_conv _ rfl rfl (HRW.out w' hLat).2.2.1) hS ?_
              try simp only [Act.put, List.setIfInBounds_toArray, List.set_cons_zero, List.set_cons_succ, List.getElem_toArray, List.getElem_cons_zero, List.getElem_cons_succ]
              refine take_s (i := 5) (v := ?_) rfl (by kernel_rfl) (by kernel_rfl) (by kernel_rfl) (fun _ _ _ h => h) (by rfl) ?_ hS ?_
              rotate_left
              · intro w' hLat; clear hLat; go_simp <;> with_reducible rfl
              try simp only [Act.put, List.setIfInBounds_toArray, List.set_cons_zero, List.set_cons_succ, List.getElem_toArray, List.getElem_cons_zero, List.getElem_cons_succ]
              refine take_s (i := 6) (v := ?_) rfl (by kernel_rfl) (by kernel_rfl) (by kernel_rfl) (fun _ _ _ h => h) (by rfl) ?_ hS ?_
              rotate_left
              · intro w' hLat; clear hLat; go_simp <;> with_reducible rfl
              try simp only [Act.put, List.setIfInBounds_toArray, List.set_cons_zero, List.set_cons_succ, List.getElem_toArray, List.getElem_cons_zero, List.getElem_cons_succ]
              refine take_s (i := 7) (v := .pointer (some ⟨gn, 0 + q * 1, none⟩)) rfl (by kernel_rfl) (by kernel_rfl) (by kernel_rfl) (fun _ _ _ h => h) (by rfl) (fun w' hLat => exec_idxTU 73 64 Tryd.underlying73 1 (by kernel_rfl) _ _ rfl gn 0 k k q rfl rfl HLX.out.2) hS ?_
              try simp only [Act.put, List.setIfInBounds_toArray, List.set_cons_zero, List.set_cons_succ, List.getElem_toArray, List.getElem_cons_zero, List.getElem_cons_succ]
              refine take_s (i := 8) (v := .slice an 192 cn) rfl (by kernel_rfl) (by kernel_rfl) (by kernel_rfl) (fun _ _ _ h => h) (by rfl) (fun w' hLat => exec_load1 64 _ _ rfl Tryd.underlying64 rfl _ rfl _ (HRW.out w' hLat).2.1) hS ?_
              try simp only [Act.put, List.setIfInBounds_toArray, List.set_cons_zero, List.set_cons_succ, List.getElem_toArray, List.getElem_cons_zero, List.getElem_cons_succ]
              refine take_s (i := 9) (v := .string (strOfNums BB)) rfl (by kernel_rfl) (by kernel_rfl) (by kernel_rfl) (fun _ _ _ h => h) (by rfl) (fun w' hLat => Seal.exec_conv _ rfl rfl (HRW.out w' hLat).2.2.2) hS ?_
              try simp only [Act.put, List.setIfInBounds_toArray, List.set_cons_zero, List.set_cons_succ, List.getElem_toArray, List.getElem_cons_zero, List.getElem_cons_succ]
              refine take_s (i := 10) (v := .bool false) rfl (by kernel_rfl) (by kernel_rfl) (by kernel_rfl) (fun _ _ _ h => h) (by rfl) (fun w' hLat => exec_strSame _ _ _ rfl BB HBB.out rfl rfl) hS ?_
              try simp only [Act.put, List.setIfInBounds_toArray, List.set_cons_zero, List.set_cons_succ, List.getElem_toArray, List.getElem_cons_zero, List.getElem_cons_succ]
              refine wpAnyH_done (by kernel_rfl) ?_ _
              have HE : Box (Below z8.heap.size z8 wd) := ⟨hS⟩
              clear hS
              go_wp2
              go_roundw
              case rel => exact ⟨i + 1, HLX.out.1, by go_num, HE⟩
              case measure => simp [intOf]; have := HLX.out.1; omega
            · obtain rfl : na = i := by omega
              have hd1 : decide (na < na) = false := by simp
              clear hlt hin
              have GW : Box (JC x8 wr J D fpz7 { j1' with nx := nx3 } d4 ∧ wr.heap[S12]? = some (.cells (sa s1) 26 (0, 0))) := ⟨G8.out.1.below HG.out, (HG.out.block S12 (Array.getElem?_eq_some_iff.1 HW8.out.2).1).trans HW8.out.2⟩
              have HSTA : Box (Calls Tryd.prog 15 #[.pointer (some ⟨J, 0, none⟩)] wr fun e w' => e = .returned (.tuple #[.agg (sa s1), .int .u64 nx3]) ∧ Below wr.heap.size wr w') := ⟨by
                have := state_any GW.out.1.row GW.out.1.ok
                have e1 : ({ j1' with nx := nx3 } : Jt).st = s1 := HJ1.out.2.2.1
                rw [e1] at this
                exact this⟩
              go_upto_region 33 with (first
                | (go_at_call 15; refine HSTA.out.mono ?_; rintro e v1 ⟨rfl, hb⟩; have V1 : Box (Below wr.heap.size wr v1) := ⟨hb⟩; clear hb)
                | (refine atAlloc _ ?_; refine wpList_run rfl _ _ (exec_alloc 26 rfl _ zeroSt) ?_)
                | (refine atStore _ ?_; refine wpList_newRow v1 (sa zs) (sa s1) HIS.out.1 HIS.out.2.1 (all_sa s1) rfl _ _ rfl rfl rfl rfl ?_; intro v2 h2 hb2; have V2 : Box (v2.heap[v1.heap.size]? = some (.cells (sa s1) 26 (0, 0)) ∧ Below v1.heap.size v1 v2) := ⟨h2, hb2⟩; clear h2 hb2))
              obtain ⟨S30, hS30⟩ : ∃ S30, v1.heap.size = S30 := ⟨_, rfl⟩
              (try simp only [hS30])
              have V3 : Box (v2.rangeAt S30 0 (scs s1) ∧ v2.rangeAt S12 0 (scs s1) ∧ v2.cell? ⟨S12, 1, none⟩ = some (.int .u64 (na : Int)) ∧ Below w.heap.size w v2) := ⟨by
                have hb := below_to V1.out V2.out.2
                have hb8 := below_to HG.out hb
                have hr : v2.heap[S12]? = some (.cells (sa s1) 26 (0, 0)) := (hb.block S12 (Array.getElem?_eq_some_iff.1 GW.out.2).1).trans GW.out.2
                refine ⟨by rw [← hS30]; exact range_sa V2.out.1, range_sa hr, (HCE.out v2 hb8).2, HEND.out v2 hb8⟩⟩
              have cv := V3.out.2.2.1
              have HEQ2 : Box (eqS s1 s1 = true) := ⟨eqS_self s1⟩
              have hwna : IntKind.u64.wrap (na : Int) = (na : Int) := by rw [IntKind.wrap_u64]; have := HK9.out; omega
              obtain ⟨rr, hrr⟩ : ∃ r, k - na = r := ⟨_, rfl⟩
              have hwr : IntKind.i64.wrap ((k : Int) - (na : Int)) = (rr : Int) := by rw [IntKind.wrap_i64]; have := HAU.out; have := HK9.out; omega
              have he3 := HE3.out
              rw [hrr] at he3
              clear hS30 hrr ce0 ce1
              by_cases h0 : nb = 0
              · have ez : e3 = 1 := by rw [he3, if_pos h0]
                subst ez
                clear he3
                subst h0
                go_wp2_with (first
                  | (refine atLoad 26 ?_; refine wpList_ldMid rfl 26 _ _ rfl Tryd.underlying26 rfl S30 0 rfl (scs s1) HIS.out.2.2.1 V3.out.1 ?_; rw [HIS.out.2.2.2.1])
                  | (refine atLoad 26 ?_; refine wpList_ldMid rfl 26 _ _ rfl Tryd.underlying26 rfl S12 0 rfl (scs s1) HIS.out.2.2.1 V3.out.2.1 ?_; rw [HIS.out.2.2.2.1])
                  | (refine atBin .eql 26 ?_; refine wpList_run rfl _ _ (exec_eqSt _ _ _ rfl s1 s1 HIS.out.2.2.2.2 HIS.out.2.2.2.2 true HEQ2.out rfl rfl) ?_))
                all_goals first | (go_ret; exact ⟨rfl, V3.out.2.2.2⟩) | (exfalso; omega) | (exfalso; simp_all; done)
              · by_cases h1 : rr < nb
                · have ez : e3 = 17 := by rw [he3, if_neg h0, if_pos h1]
                  subst ez
                  have g1 : decide ((0 : Int) < (nb : Int)) = true := by simp; omega
                  have g2 : decide (nb ≤ rr) = false := by simp; omega
                  have g3 : 0 < nb := by omega
                  clear he3
                  go_wp2_with (first
                    | (refine atLoad 26 ?_; refine wpList_ldMid rfl 26 _ _ rfl Tryd.underlying26 rfl S30 0 rfl (scs s1) HIS.out.2.2.1 V3.out.1 ?_; rw [HIS.out.2.2.2.1])
                    | (refine atLoad 26 ?_; refine wpList_ldMid rfl 26 _ _ rfl Tryd.underlying26 rfl S12 0 rfl (scs s1) HIS.out.2.2.1 V3.out.2.1 ?_; rw [HIS.out.2.2.2.1])
                    | (refine atBin .eql 26 ?_; refine wpList_run rfl _ _ (exec_eqSt _ _ _ rfl s1 s1 HIS.out.2.2.2.2 HIS.out.2.2.2.2 true HEQ2.out rfl rfl) ?_))
                  all_goals first | (go_ret; exact ⟨rfl, V3.out.2.2.2⟩) | (exfalso; omega) | (exfalso; simp_all; done)
                · have ez : e3 = 0 := by rw [he3, if_neg h0, if_neg h1]
                  subst ez
                  have g1 : decide ((0 : Int) < (nb : Int)) = true := by simp; omega
                  have g2 : decide (nb ≤ rr) = true := by simp; omega
                  have g3 : 0 < nb := by omega
                  clear he3
                  go_wp2_with (first
                    | (refine atLoad 26 ?_; refine wpList_ldMid rfl 26 _ _ rfl Tryd.underlying26 rfl S30 0 rfl (scs s1) HIS.out.2.2.1 V3.out.1 ?_; rw [HIS.out.2.2.2.1])
                    | (refine atLoad 26 ?_; refine wpList_ldMid rfl 26 _ _ rfl Tryd.underlying26 rfl S12 0 rfl (scs s1) HIS.out.2.2.1 V3.out.2.1 ?_; rw [HIS.out.2.2.2.1])
                    | (refine atBin .eql 26 ?_; refine wpList_run rfl _ _ (exec_eqSt _ _ _ rfl s1 s1 HIS.out.2.2.2.2 HIS.out.2.2.2.2 true HEQ2.out rfl rfl) ?_))
                  all_goals first | (go_ret; exact ⟨rfl, V3.out.2.2.2⟩) | (exfalso; omega) | (exfalso; simp_all; done)
    · have dB : decide ((10 : Int) < (nb : Int)) = true := by simp; omega
      go_enter Tryd.func5, Tryd.ntmps5
      go_upto_region 1 with fail
      (try simp only [HS.out])
      clear hw1
      go_wp2_with (go_at_call 8; refine HAW.out.mono ?_; rintro e x1 ⟨rfl, hb⟩; have H1 : Box (Below w1.heap.size w1 x1) := ⟨hb⟩; clear hb)
      go_ret
      exact ⟨rfl, (HX.out x1 H1.out).2.2.2.2.2⟩
  · have dA : decide ((10 : Int) < (na : Int)) = true := by simp; omega
    go_enter Tryd.func5, Tryd.ntmps5
    go_upto_region 1 with fail
    (try simp only [HS.out])
    clear hw1
    go_wp2_with (go_at_call 8; refine HAW.out.mono ?_; rintro e x1 ⟨rfl, hb⟩; have H1 : Box (Below w1.heap.size w1 x1) := ⟨hb⟩; clear hb)
    go_ret
    exact ⟨rfl, (HX.out x1 H1.out).2.2.2.2.2⟩
end Go.Proofs.YtipdaaajnbjnjaaDoor
