/-
  DigestReads holds of the program at this commit: any digits are the digest that the document says, or refused; a digest's digits are read as it; the package's two tables hold what their initialisers lay (the card ties that to the text).
-/
import Derived.Test.YteeahghoooiiaaaDoorLR
import Derived.Test.YteeahghoooiiaaaDoorFA
namespace Go.Proofs.YteeahghoooiiaaaDoor
set_option linter.unusedVariables false
open Go.RowKit Plain

set_option maxHeartbeats 400000 in
theorem reads_out (S : ByteArray) (D : List Int) (w : World) (hT : Tabs w) (hs : S.size ≤ maxLen) (hl : D.length = 32) (h : 300 < S.size) :
    Calls Tryd.prog 5 #[.string S, .agg (u8s D)] w fun e w' => e = .returned (.bool true) ∧ Below w.heap.size w w' := by
  unfold maxLen at hs
  have h1 : 300 < (S.size : Int) := by omega
  have hb0 : Below w.heap.size w (w.alloc (.cells (u8s D) 25)) := (Below.refl _ _).alloc (Nat.le_refl _) _
  have H0 : Box (Tabs (w.alloc (.cells (u8s D) 25)) ∧ Below w.heap.size w (w.alloc (.cells (u8s D) 25))) := ⟨hT.below hb0, hb0⟩
  clear hT hb0
  go_enter Tryd.func5, Tryd.ntmps5
  go_wp2_with (go_at_call 9; refine (awake_any _ H0.out.1).mono ?_; rintro e w1 ⟨rfl, hb1⟩)
  go_ret
  exact ⟨rfl, H0.out.2.trans (hb1.mono H0.out.2.size)⟩
end Go.Proofs.YteeahghoooiiaaaDoor

namespace Go.Proofs.YteeahghoooiiaaaDoor.digestReads
open Go.ChangeShapes Go.WideShapes Go.ChangeAt Go.RowKit Go.Proofs.YteeahghoooiiaaaDoor.Plain
open Go.ChangeMaps (open_string shut_string)
set_option linter.unusedVariables false

theorem walk (S : ByteArray) (D : List Int) (w : World) (hT : Tabs w) (hs : S.size ≤ maxLen) (hl : D.length = 32) (hD : Byt D) :
    Calls Tryd.prog 5 #[.string S, .agg (u8s D)] w fun e w' => e = .returned (.bool true) ∧ Below w.heap.size w w' := by
  by_cases h : S.size ≤ 300
  · exact reads_in S D w hT hD hl h
  · exact reads_out S D w hT hs hl (by omega)

theorem contract (H : Type) (enc : TypeId × Value → H) (W : World) (base : Nat) (args : Array Value) (ds gs : List (DataW H)) (before : List MemPlace)
    (hval : ∀ (j : Nat) t v, Tryd.f5.params[j]? = some t → args[j]? = some v → Value.okWide Tryd.prog W .any base t v)
    (hW : DataW.Whole enc Tryd.prog Tryd.f5.params.toList Rows.digestReadsSpec.vars false W args.toList ds gs before) (hL : laidMetH Tryd.prog Rows.digestReadsRow.laid W) :
    Calls Tryd.prog 5 args W fun e W' => ∃ v, e = .returned v ∧ Rows.digestReadsSpec.post enc Tryd.prog Tryd.f5 false true false false W args v W' := by
  have hT : Tabs W := tabs_of_laid hL
  have hW' := hW
  obtain ⟨p, q, hA0, hV, rfl, hfz, hnd⟩ := hW
  have hA : DataW.TrodAll enc Tryd.prog W 0 (fun _ => true) true Tryd.f5.params.toList args.toList ds p := hA0
  rw [Tryd.params5] at hA hval
  obtain ⟨v0, vs0, d0, ds0, p0, q0, hargs, rfl, rfl, h0, r0⟩ := trodAll_cons hA
  obtain ⟨v1, vs1, d1, ds1, p1, q1, rfl, rfl, rfl, h1, r1⟩ := trodAll_cons r0
  obtain ⟨rfl, rfl, rfl⟩ := trodAll_nil r1
  obtain rfl : args = #[v0, v1] := by cases args; simp_all
  obtain ⟨rfl, rfl⟩ := trodVars_none hV
  obtain ⟨S, rfl, rfl, rfl, hs⟩ := open_string Tryd.underlying9 (hval 0 9 v0 rfl rfl) h0
  have k1 := h1
  have lt1 : ∀ x ∈ p1, x.block < W.heap.size := by obtain ⟨m, hm⟩ := k1; exact DataW.trod_lt m _ _ _ hm
  obtain ⟨D, rfl, hl, hD⟩ := open_sum (hval 1 25 v1 rfl rfl) h1
  clear hA0
  refine (walk S D W hT hs hl hD).mono fun e W' ⟨he, bel⟩ => ?_
  subst he
  exact ⟨_, rfl, _, _, _, [], _, [], hW', trodAll_mk1 (shut_bool Tryd.underlying4 _), (trodAll_cons_mk (shut_string Tryd.underlying9 hs) (trodAll_cons_mk (Below.trod laidOut (by kernel_rfl) (of_decide_eq_true (by kernel_rfl)) k1 bel lt1) trodAll_mk0)), rfl, bel.frame _, fun h => by cases h⟩

theorem laid_met (os : Os) : laidMet Tryd.prog Rows.digestReadsRow.laid ((laidWorld os).forCall (fun _ _ => 0) ⟨#[], #[.string { data := #[] }, .agg (u8s (List.replicate 32 0))], []⟩).memory :=
  laidMet_of_run' 8 (by kernel_rfl) (by kernel_rfl)
theorem reads (os : Os) {H : Type} (enc : TypeId × Value → H) : ∃ ds places, DataW.whole enc Tryd.prog ((laidWorld os).forCall (fun _ _ => 0) ⟨#[], #[.string { data := #[] }, .agg (u8s (List.replicate 32 0))], []⟩).memory Tryd.f5.params.toList Rows.digestReadsSpec.vars false #[Value.string { data := #[] }, Value.agg (u8s (List.replicate 32 0))].toList 8 = some (ds, [], places) :=
  ⟨[.lit (.string []), .agg (List.replicate 32 (.lit (.int .u8 0)))], [], by kernel_rfl⟩

set_option maxRecDepth 100000 in
theorem lifted (os : Os) (started : os.Started) (H : Type) (enc : TypeId × Value → H) (F : Stop.Interp) :
    ReturnsInHanded {} Tryd.checked os 5 .any ((OpenSpec.ofChange Rows.digestReadsSpec).preRow enc Tryd.prog Tryd.f5 Rows.digestReadsRow.domain false Rows.digestReadsRow.laid) (((OpenSpec.ofChange Rows.digestReadsSpec).at F).post enc Tryd.prog Tryd.f5 false true false false) := by
  obtain ⟨ds, places, hx⟩ := reads os enc
  refine returnsInHanded_of_row (C := Tryd.checked) (s := OpenSpec.ofChange Rows.digestReadsSpec) own started (by kernel_rfl) Tryd.func5
    (witness_row_at (enc := enc) (C := Tryd.checked) false (laidWorld os) #[.string { data := #[] }, .agg (u8s (List.replicate 32 0))] rfl (by kernel_rfl) (by kernel_rfl) (by kernel_rfl)
      (OpenSpec.preRow_of_cond 8 hx (by kernel_rfl) (fun k hk => by cases hk) (by kernel_rfl) (laid_met os))) ?_
  intro W base args ds gs before hval hW _ _ _ hL _ _
  exact contract H enc W base args ds gs before hval hW hL

theorem said : Rows.DigestReadsSaid :=
  OpenClaim.holds_of_cond 5 Tryd.f5 rfl rfl rfl rfl rfl rfl rfl ⟨rfl, rfl, rfl, rfl, rfl⟩ rfl rfl rfl rfl rfl (by kernel_rfl) Tryd.func5 (by kernel_rfl)
    (of_decide_eq_true (by kernel_rfl)) (by unfold Func.isWrapper; first | (rw [if_pos (by decide +kernel)]; kernel_rfl) | (rw [if_neg (by decide +kernel)]; exact ⟨rfl, rfl⟩))
    (fun os started H enc _ F => by rw [OpenClaim.pre_eq_preRow]; exact lifted os started H enc F)

theorem plain (f : FuncId) (fn : Func) (hf : Tryd.pinned.checked.prog.funcNamed "reliquary/reliquarylaw02.DigestReads" = some f) (hfn : Tryd.pinned.checked.prog.funcs[f]? = some fn) :
    false = Tryd.pinned.checked.prog.looks [] ∧ ∀ (j : Nat) t, fn.params[j]? = some t → Tryd.pinned.checked.prog.wantsStandIn t = false := by
  obtain rfl : f = 5 := Option.some.inj ((show Tryd.prog.funcNamed "reliquary/reliquarylaw02.DigestReads" = some 5 by kernel_rfl).symm.trans hf) |>.symm
  obtain rfl : fn = Tryd.f5 := (Option.some.inj (Tryd.func5.symm.trans hfn)).symm
  refine ⟨by kernel_rfl, fun j t ht => ?_⟩
  rw [Tryd.params5] at ht
  have hm : t ∈ [9, 25] := by simpa using Array.mem_of_getElem? ht
  have hall : ([9, 25].all fun u => !Tryd.prog.wantsStandIn u) = true := by kernel_rfl
  exact (show Tryd.prog.wantsStandIn t = false by simpa using List.all_eq_true.1 hall t hm)
end Go.Proofs.YteeahghoooiiaaaDoor.digestReads

namespace Go.Proofs.YteeahghoooiiaaaDoor
theorem digestReads_holds : Rows.DigestReadsCardSaid :=
  Claim7.holds_tied_plain_at .later [] _ _ _ _ digestReads.said (fun _ h => by cases h) (by kernel_rfl) (fun _ h => by cases h) digestReads_row_tie rfl ⟨rfl, rfl⟩ (by kernel_rfl) rfl digestReads.plain (by kernel_rfl)
#print axioms digestReads_holds
end Go.Proofs.YteeahghoooiiaaaDoor
