/-
  What Append of package journal leaves: records written behind those that count, one by one.
-/
import Derived.Test.YtcggbnggmglphaaDoorQ30
import Derived.Test.YtcggbnggmglphaaDoorQ33
namespace Go.Proofs.YtcggbnggmglphaaDoor
set_option maxRecDepth 100000
set_option linter.unusedVariables false
open Go.RowKit Plain
attribute [local go_sem] Oper.semAt_some
/-- What appending has come to: the disk, the next version, an error, the state. -/
abbrev Ast := Disk.Dk × Int × Int × Jst
def apP (j : Jt) (x : Ast) : Nat := plc j (x.2.2.2.start + x.2.2.2.count)
def apT (j : Jt) (x : Ast) (r : (Int × List Int) × Bool) : List Int := slt j.key (apP j x : Int) x.2.1 r
def apS (j : Jt) (x : Ast) (r : (Int × List Int) × Bool) : Ast :=
  if x.2.2.1 ≠ 0 then x else ((dwr x.1 (apP j x) (apT j x r)).1, x.2.1 + 1, (dwr x.1 (apP j x) (apT j x r)).2, if (dwr x.1 (apP j x) (apT j x r)).2 = 0 then nxS j x.2.2.2 (apP j x) (apT j x r) else x.2.2.2)
def apL (j : Jt) (x : Ast) (L : List ((Int × List Int) × Bool)) : Ast := L.foldl (apS j) x
def bad (L : List (Int × List Int)) : Bool := L.isEmpty || L.any (fun x => decide (x.2.length ≠ 160))
def appM (j : Jt) (d : Disk.Dk) (L : List (Int × List Int)) : Ast :=
  if bad L = true then (d, j.nx, 1, zs) else if tke j L.length ≠ 0 then (d, j.nx, tke j L.length, zs) else
  if (apL j (d, j.nx, 0, j.st) (ofP L)).2.2.1 ≠ 0 then ((apL j (d, j.nx, 0, j.st) (ofP L)).1, (apL j (d, j.nx, 0, j.st) (ofP L)).2.1, (apL j (d, j.nx, 0, j.st) (ofP L)).2.2.1, zs) else apL j (d, j.nx, 0, j.st) (ofP L)
theorem apS_stop (j : Jt) (x : Ast) (r : (Int × List Int) × Bool) (h : x.2.2.1 ≠ 0) : apS j x r = x := by unfold apS; rw [if_pos h]
theorem apL_stop (j : Jt) (x : Ast) (h : x.2.2.1 ≠ 0) : ∀ L, apL j x L = x
  | [] => rfl
  | r :: L => by
    show apL j (apS j x r) L = x
    rw [apS_stop j x r h]
    exact apL_stop j x h L
theorem apL_snoc (j : Jt) (x : Ast) (L : List ((Int × List Int) × Bool)) (r : (Int × List Int) × Bool) : apL j x (L ++ [r]) = apS j (apL j x L) r := by simp [apL]
theorem apL_split (j : Jt) (x : Ast) (L : List ((Int × List Int) × Bool)) (k : Nat) : apL j x L = apL j (apL j x (L.take k)) (L.drop k) := by
  unfold apL
  rw [← List.foldl_append, List.take_append_drop]
/-- A disk has grown by no more than k. -/
structure Gw (d : Disk.Dk) (k : Nat) (d' : Disk.Dk) : Prop where
  ops : d'.ops.length ≤ d.ops.length + k
  uw : d'.uw.length ≤ d.uw.length + k
  left : (0 ≤ d.left ∧ d.left ≤ 9223372036854775807) → (0 ≤ d'.left ∧ d'.left ≤ 9223372036854775807)
  n : d'.n = d.n
theorem Gw.refl (d : Disk.Dk) (k : Nat) : Gw d k d := ⟨by omega, by omega, fun h => h, rfl⟩
theorem Gw.trans {d d' d'' : Disk.Dk} {k l : Nat} (h : Gw d k d') (h' : Gw d' l d'') : Gw d (k + l) d'' :=
  ⟨by have := h.ops; have := h'.ops; omega, by have := h.uw; have := h'.uw; omega, fun e => h'.left (h.left e), h'.n.trans h.n⟩
theorem Gw.more {d d' : Disk.Dk} {k l : Nat} (h : Gw d k d') (hl : k ≤ l) : Gw d l d' := ⟨by have := h.ops; omega, by have := h.uw; omega, h.left, h.n⟩
theorem gw_wr (d : Disk.Dk) (p : Nat) (S : List Int) : Gw d 1 (dwr d p S).1 := by
  unfold dwr
  split
  · exact Gw.refl _ _
  · split
    · exact ⟨Nat.le_succ _, Nat.le_succ _, fun h => h, rfl⟩
    · rename_i h4 h5
      refine ⟨by simp [Disk.wrOk], by simp [Disk.wrOk], fun h1 => ?_, rfl⟩
      simp only [Disk.wrOk]
      by_cases hs : d.st = true
      · rw [if_pos hs]
        have : d.left ≠ 0 := fun e => h5 ⟨hs, e⟩
        omega
      · rw [if_neg hs]; exact h1
/-- What holds of k records written. -/
structure Apk (j : Jt) (d : Disk.Dk) (k : Nat) (y : Ast) : Prop where
  gw : Gw d k y.1
  st : y.2.2.1 = 0 → y.2.2.2.start = j.st.start ∧ y.2.2.2.count = j.st.count + k ∧ y.2.1 = j.nx + (k : Int) ∧ y.2.2.2.tag.length = 32 ∧ Byt y.2.2.2.tag
theorem apk_step {j : Jt} {d : Disk.Dk} {k : Nat} {y : Ast} (h : Apk j d k y) (r : (Int × List Int) × Bool) : Apk j d (k + 1) (apS j y r) := by
  by_cases h0 : y.2.2.1 = 0
  · obtain ⟨h1, h2, h3, h4, h5⟩ := h.st h0
    have e : apS j y r = ((dwr y.1 (apP j y) (apT j y r)).1, y.2.1 + 1, (dwr y.1 (apP j y) (apT j y r)).2, if (dwr y.1 (apP j y) (apT j y r)).2 = 0 then nxS j y.2.2.2 (apP j y) (apT j y r) else y.2.2.2) := by unfold apS; rw [if_neg (fun h => h h0)]
    rw [e]
    refine ⟨h.gw.trans (gw_wr _ _ _), fun hz => ?_⟩
    have hz' : (dwr y.1 (apP j y) (apT j y r)).2 = 0 := hz
    simp only [hz', if_true]
    exact ⟨h1, by show y.2.2.2.count + 1 = _; omega, by rw [h3]; omega, length_dsha _, byt_dsha _⟩
  · rw [apS_stop j y r h0]
    exact ⟨h.gw.more (by omega), fun h => absurd h h0⟩
theorem apk_take (j : Jt) (ok : j.Ok) (d : Disk.Dk) (L : List ((Int × List Int) × Bool)) : ∀ k, k ≤ L.length → Apk j d k (apL j (d, j.nx, 0, j.st) (L.take k))
  | 0, _ => ⟨Gw.refl _ _, fun _ => ⟨rfl, rfl, by show j.nx = j.nx + ((0 : Nat) : Int); omega, ok.st.lt, ok.st.bt⟩⟩
  | k + 1, h => by
    rw [List.take_succ_eq_append_getElem (by omega), apL_snoc]
    exact apk_step (apk_take j ok d L k (by omega)) _
/-- What Append leaves. -/
def ApV (w0 w : World) (J D : Nat) (fp : Nat → Prop) (j : Jt) (y : Ast) (e : Ending) (w' : World) : Prop :=
  ∃ fp', e = .returned (.tuple #[.agg (sa y.2.2.2), .int .i64 y.2.2.1]) ∧ JC w0 w' J D fp' { j with nx := y.2.1 } y.1 ∧ Fw (fun k => k = J) w w' fp fp'
theorem of_void (a : Option Addr) (cap : Nat) (w : World) : Calls Tryd.prog 24 #[.slice a 0 cap] w fun e w' => e = .returned (.tuple #[.slice none 0 0, .int .i64 1]) ∧ Below w.heap.size w w' := by
  go_enter Tryd.func24, Tryd.ntmps24
  go_wp2
  go_ret2
  exact ⟨rfl, Below.refl _ _⟩
set_option maxHeartbeats 4000000 in
theorem append_bad {w0 w : World} {J D : Nat} {fp : Nat → Prop} {j : Jt} {d : Disk.Dk} (C : JC w0 w J D fp j d) (a : Option Addr) (cap : Nat) (M : List Im) (hM : Imgs w a M) (hl : M.length ≤ 1000) (hmx : ∀ m ∈ M, m.bl ≤ 100000) (hbad : bad (M.map pl) = true) :
    Calls Tryd.prog 10 #[.pointer (some ⟨J, 0, none⟩), .slice a M.length cap] w fun e w' => ApV w0 w J D fp j (d, j.nx, 1, zs) e w' := by
  obtain ⟨B, hB⟩ : ∃ B, w.heap.size = B := ⟨_, rfl⟩
  obtain ⟨w1, hw1⟩ : ∃ w1, (w.alloc (.cells #[.pointer (some ⟨J, 0, none⟩)] 38)).alloc (.cells (sa zs) 42) = w1 := ⟨_, rfl⟩
  have hb1 : Below w.heap.size w w1 := by rw [← hw1]; exact ((Below.refl _ _).alloc (Nat.le_refl _) _).alloc (by simp) _
  have k1 : w1.heap[B]? = some (.cells #[.pointer (some ⟨J, 0, none⟩)] 38 (0, 0)) := by rw [← hw1]; exact al_old (al_at hB)
  have k2 : w1.heap[B + 1]? = some (.cells (sa zs) 42 (0, 0)) := by rw [← hw1]; exact al_at (by simp [hB])
  have C1 := C.below hb1
  have HNO : Box (Calls Tryd.prog 23 #[.pointer (some ⟨J, 0, none⟩)] w1 fun e w' => e = .returned (.bool false) ∧ w1 = w') := ⟨none_no C1.rd C.ok.lo⟩
  have HBX : Box (∀ x, Below w1.heap.size w1 x → x.cell? ⟨B, 0, none⟩ = some (.pointer (some ⟨J, 0, none⟩)) ∧ x.heap[B + 1]? = some (.cells (sa zs) 42 (0, 0))) := ⟨fun x hx => ⟨by rw [cell_of_row _ _ _ _ _ _ ((hx.block B (Array.getElem?_eq_some_iff.1 k1).1).trans k1)]; rfl, (hx.block (B + 1) (Array.getElem?_eq_some_iff.1 k2).1).trans k2⟩⟩
  have HIZ : Box ((Tryd.prog.info? 42).map (·.size) = some (sa zs).size) := ⟨by rw [size_sa okS_zs]; exact infoSt⟩
  have HB : Box (w.heap.size = B) := ⟨hB⟩
  have hs2 : (w.alloc (.cells #[.pointer (some ⟨J, 0, none⟩)] 38)).heap.size = B + 1 := by simp [hB]
  have c1 := (HBX.out w1 (Below.refl _ _)).1
  have HOF : Box (Calls Tryd.prog 24 #[.slice a M.length cap] w1 fun e w' => e = .returned (.tuple #[.slice none 0 0, .int .i64 1]) ∧ Below w1.heap.size w1 w') := ⟨by
    by_cases h0 : M.length = 0
    · rw [h0]; exact of_void a cap w1
    · refine of_bad a cap M w1 (hM.below hb1) hl (by omega) ?_ hmx
      simp only [bad, List.isEmpty_map, Bool.or_eq_true, List.isEmpty_iff, List.any_eq_true, List.mem_map, decide_eq_true_eq] at hbad
      rcases hbad with h | ⟨x, ⟨m, hm, rfl⟩, hx⟩
      · rw [h] at h0; exact absurd rfl h0
      · exact ⟨m, hm, by rw [← (hM.byt m hm).1.1]; exact hx⟩⟩
  have HFO : Box (∀ x, Below w1.heap.size w1 x → ApV w0 w J D fp j (d, j.nx, 1, zs) (.returned (.tuple #[.agg (sa zs), .int .i64 1])) (x.setRow (B + 1) (sa zs))) := ⟨fun x hx => by
    have hwx := below_to hb1 hx
    have hbb : Below w.heap.size w (x.setRow (B + 1) (sa zs)) := below_but hwx (but_setRow _ _ _) (by omega) hwx.size
    exact ⟨fp, rfl, C.below hbb, Fw.below _ fp hbb⟩⟩
  clear C hM hl hmx hbad hb1 k1 k2 C1 hB
  go_enter Tryd.func10, Tryd.ntmps10
  go_upto_region 1 with (refine atAlloc _ ?_; refine wpList_run rfl _ _ (exec_alloc 42 rfl _ zeroSt) ?_)
  (try rw [hs2])
  (try simp only [HB.out])
  clear hw1 hs2
  go_upto_region 5 with (first
    | (go_at_call 23; refine HNO.out.mono ?_; rintro e x1 ⟨rfl, rfl⟩)
    | (go_at_call 24; refine HOF.out.mono ?_; rintro e x2 ⟨rfl, hb⟩; have H2 : Box (Below w1.heap.size w1 x2) := ⟨hb⟩; clear hb))
  have HR : Box _ := ⟨(HBX.out x2 H2.out).2⟩
  go_wp2_with (first
    | (refine atBuild _ ?_; refine wpList_run rfl _ _ (exec_built 42 [] rfl [] rfl _ built_St0) ?_)
    | (refine atStore _ ?_; refine wpList_store_row rfl 42 _ _ rfl (B + 1) (sa zs) rfl rfl 42 (sa zs) HR.out HIZ.out rfl (all_sa zs) ?_))
  refine bodyPost_ret (results_row2 (t := 4) (u := 5) rfl _ Tryd.underlying42 rfl _ _ (B + 1) (sa zs) HIZ.out rfl (setRow_heap _ _ _ _ _ _ HR.out)) rfl ?_
  exact HFO.out x2 H2.out
set_option maxHeartbeats 4000000 in
theorem append_few {w0 w : World} {J D : Nat} {fp : Nat → Prop} {j : Jt} {d : Disk.Dk} (C : JC w0 w J D fp j d) (a : Option Addr) (cap : Nat) (M : List Im) (hM : Imgs w a M) (hl : M.length ≤ 1000) (hmx : ∀ m ∈ M, m.bl ≤ 100000) (hbad : bad (M.map pl) = false) (E : Int) (htk : tke j M.length = E) (hE : E ≠ 0) :
    Calls Tryd.prog 10 #[.pointer (some ⟨J, 0, none⟩), .slice a M.length cap] w fun e w' => ApV w0 w J D fp j (d, j.nx, E, zs) e w' := by
  obtain ⟨B, hB⟩ : ∃ B, w.heap.size = B := ⟨_, rfl⟩
  obtain ⟨w1, hw1⟩ : ∃ w1, (w.alloc (.cells #[.pointer (some ⟨J, 0, none⟩)] 38)).alloc (.cells (sa zs) 42) = w1 := ⟨_, rfl⟩
  have hb1 : Below w.heap.size w w1 := by rw [← hw1]; exact ((Below.refl _ _).alloc (Nat.le_refl _) _).alloc (by simp) _
  have k1 : w1.heap[B]? = some (.cells #[.pointer (some ⟨J, 0, none⟩)] 38 (0, 0)) := by rw [← hw1]; exact al_old (al_at hB)
  have k2 : w1.heap[B + 1]? = some (.cells (sa zs) 42 (0, 0)) := by rw [← hw1]; exact al_at (by simp [hB])
  have C1 := C.below hb1
  have HNO : Box (Calls Tryd.prog 23 #[.pointer (some ⟨J, 0, none⟩)] w1 fun e w' => e = .returned (.bool false) ∧ w1 = w') := ⟨none_no C1.rd C.ok.lo⟩
  have HBX : Box (∀ x, Below w1.heap.size w1 x → x.cell? ⟨B, 0, none⟩ = some (.pointer (some ⟨J, 0, none⟩)) ∧ x.heap[B + 1]? = some (.cells (sa zs) 42 (0, 0))) := ⟨fun x hx => ⟨by rw [cell_of_row _ _ _ _ _ _ ((hx.block B (Array.getElem?_eq_some_iff.1 k1).1).trans k1)]; rfl, (hx.block (B + 1) (Array.getElem?_eq_some_iff.1 k2).1).trans k2⟩⟩
  have HIZ : Box ((Tryd.prog.info? 42).map (·.size) = some (sa zs).size) := ⟨by rw [size_sa okS_zs]; exact infoSt⟩
  have HB : Box (w.heap.size = B) := ⟨hB⟩
  have hs2 : (w.alloc (.cells #[.pointer (some ⟨J, 0, none⟩)] 38)).heap.size = B + 1 := by simp [hB]
  have c1 := (HBX.out w1 (Below.refl _ _)).1
  obtain ⟨n, hn⟩ : ∃ n, M.length = n := ⟨_, rfl⟩
  have HOF : Box (Calls Tryd.prog 24 #[.slice a n cap] w1 fun e w' => ∃ g, e = .returned (.tuple #[.slice (some ⟨g, 0, none⟩) n n, .int .i64 0]) ∧ Below w1.heap.size w1 w') := ⟨by
    rw [← hn]
    simp only [bad, List.isEmpty_map, Bool.or_eq_false_iff, List.any_eq_false, List.mem_map, decide_eq_true_eq] at hbad
    refine (of_ok a cap M w1 (hM.below hb1) hl ?_ (fun m hm => ?_)).mono fun e w' ⟨g, R, h1, _, _, _, h2⟩ => ⟨g, h1, h2⟩
    · cases M with
      | nil => simp at hbad
      | cons m M => simp
    · have := hbad.2 (pl m) ⟨m, hm, rfl⟩
      rw [← (hM.byt m hm).1.1]
      simpa [pl] using this⟩
  have HTK : Box (∀ x, Below w1.heap.size w1 x → Calls Tryd.prog 25 #[.pointer (some ⟨J, 0, none⟩), .int .u64 (n : Int)] x fun e w' => e = .returned (.int .i64 E) ∧ Below x.heap.size x w') := ⟨fun x hx => by
    have := takes_any (C1.below hx).row C.ok n (by omega)
    rw [← hn, htk, hn] at this
    exact this⟩
  have HFO : Box (∀ x, Below w1.heap.size w1 x → ApV w0 w J D fp j (d, j.nx, E, zs) (.returned (.tuple #[.agg (sa zs), .int .i64 E])) (x.setRow (B + 1) (sa zs))) := ⟨fun x hx => by
    have hwx := below_to hb1 hx
    have hbb : Below w.heap.size w (x.setRow (B + 1) (sa zs)) := below_but hwx (but_setRow _ _ _) (by omega) hwx.size
    exact ⟨fp, rfl, C.below hbb, Fw.below _ fp hbb⟩⟩
  have hw6 : IntKind.u64.wrap (n : Int) = (n : Int) := by rw [IntKind.wrap_u64]; omega
  have hEb : (E != 0) = true := by simp [hE]
  have hEc : (E == 0) = false := by simp [hE]
  rw [hn]
  clear C hM hl hmx hbad hb1 k1 k2 C1 hB hn htk hE
  go_enter Tryd.func10, Tryd.ntmps10
  go_upto_region 1 with (refine atAlloc _ ?_; refine wpList_run rfl _ _ (exec_alloc 42 rfl _ zeroSt) ?_)
  (try rw [hs2])
  (try simp only [HB.out])
  clear hw1 hs2
  go_upto_region 6 with (first
    | (go_at_call 23; refine HNO.out.mono ?_; rintro e x1 ⟨rfl, rfl⟩)
    | (go_at_call 24; refine HOF.out.mono ?_; rintro e x2 ⟨g, rfl, hb⟩; have H2 : Box (Below w1.heap.size w1 x2) := ⟨hb⟩; clear hb))
  have c2 := (HBX.out x2 H2.out).1
  go_upto_region 8 with (go_at_call 25; refine (HTK.out x2 H2.out).mono ?_; rintro e x3 ⟨rfl, hb⟩; have H3 : Box (Below w1.heap.size w1 x3) := ⟨below_to H2.out hb⟩; clear hb)
  have HR : Box _ := ⟨(HBX.out x3 H3.out).2⟩
  go_wp2_with (first
    | (refine atBuild _ ?_; refine wpList_run rfl _ _ (exec_built 42 [] rfl [] rfl _ built_St0) ?_)
    | (refine atStore _ ?_; refine wpList_store_row rfl 42 _ _ rfl (B + 1) (sa zs) rfl rfl 42 (sa zs) HR.out HIZ.out rfl (all_sa zs) ?_))
  refine bodyPost_ret (results_row2 (t := 4) (u := 5) rfl _ Tryd.underlying42 rfl _ _ (B + 1) (sa zs) HIZ.out rfl (setRow_heap _ _ _ _ _ _ HR.out)) rfl ?_
  exact HFO.out x3 H3.out
end Go.Proofs.YtcggbnggmglphaaDoor
