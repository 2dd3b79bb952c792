/-
  JournalLinks: the digest of any chain with any record more is the document's.
-/
import Derived.Test.YtipdaaajnbjnjaaDoorQ43
import Derived.Test.YtipdaaajnbjnjaaDoorQ01
namespace Go.Proofs.YtipdaaajnbjnjaaDoor
set_option maxRecDepth 100000
set_option linter.unusedVariables false
open Go.RowKit Plain
attribute [local go_sem] Oper.semAt_some
set_option maxHeartbeats 4000000 in
theorem journalLinks_core (D : List Int) (p : Int) (a : Option Addr) (len cap : Nat) (L : List Int) (w : World) (hT : Dig.Tabs w) (hT2 : Seal.Tab w) (hl : D.length = 32) (hD : Byt D) (hp : 0 ≤ p ∧ p ≤ 4294967295) (hB : Bytes w a len L) (hc : len ≤ cap) (hm : cap ≤ 9223372036854775807) :
    Calls Tryd.prog 4 #[.agg (u8s D), .int .u32 p, .slice a len cap] w fun e w' => e = .returned (.bool true) ∧ Below w.heap.size w w' := by
  obtain ⟨S, hS⟩ : ∃ S, w.heap.size = S := ⟨_, rfl⟩
  obtain ⟨AK, HAK⟩ : ∃ A, Box (u8s D = A) := ⟨_, ⟨rfl⟩⟩
  rw [HAK.out]
  obtain ⟨w1, hw1⟩ : ∃ w1, w.alloc (.cells AK 23) = w1 := ⟨_, rfl⟩
  have hb1 : Below w.heap.size w w1 := by rw [← hw1]; exact (Below.refl _ _).alloc (Nat.le_refl _) _
  have r1 : w1.heap[S]? = some (.cells AK 23 (0, 0)) := by rw [← hw1]; exact al_at hS
  have HAW : Box (Calls Tryd.prog 8 #[] w1 fun e w' => e = .returned (.bool true) ∧ Below w1.heap.size w1 w') := ⟨awake_v w1 (hT.below hb1) (hT2.below hb1)⟩
  have HX : Box (∀ x, Below w1.heap.size w1 x → x.rangeAt S 0 (D.map (Value.int .u8))) := ⟨fun x hx j q hq => by
    rw [cell_of_row _ _ _ _ _ _ ((hx.block S (Array.getElem?_eq_some_iff.1 r1).1).trans r1), Nat.zero_add, ← HAK.out]
    simpa [u8s] using hq⟩
  have HKI : Box ((Tryd.prog.info? 23).map (·.size) = some (D.map (Value.int .u8)).length ∧ (D.map (Value.int .u8)).toArray = AK) := ⟨by rw [List.length_map, hl]; exact infoSum, by rw [← HAK.out]; rfl⟩
  have HBY : Box (∀ x, Below w1.heap.size w1 x → Bytes x a len L) := ⟨fun x hx => hB.below (below_to hb1 hx)⟩
  have HFI : Box (∀ x, Below w1.heap.size w1 x → Below w.heap.size w x) := ⟨fun x hx => below_to hb1 hx⟩
  have hmx : len ≤ 9223372036854775807 := by omega
  have HS : Box (w.heap.size = S) := ⟨hS⟩
  by_cases hlen : len ≤ 1000
  · have hd : decide ((1000 : Int) < (len : Int)) = false := by simp; omega
    obtain ⟨Y, HY⟩ : ∃ Y, Box (lnk D p L = Y ∧ Y.length = 32) := ⟨_, ⟨rfl, length_dsha _⟩⟩
    have HLK : Box (∀ x, Below w1.heap.size w1 x → Calls Tryd.prog 20 #[.agg AK, .int .u32 p, .slice a len cap] x fun e w' => e = .returned (.agg (u8s Y)) ∧ Below x.heap.size x w') := ⟨fun x hx => by
      have := link_any D p a len cap L x (hT.below (below_to hb1 hx)) hl hD hp (HBY.out x hx) (by omega) hc hm
      rw [HAK.out, HY.out.1] at this
      exact this⟩
    have HLR : Box (∀ x, Below w1.heap.size w1 x → Calls Tryd.prog 21 #[.agg AK, .int .u32 p, .string (strOfNums L)] x fun e w' => e = .returned (.agg (u8s Y)) ∧ Below x.heap.size x w') := ⟨fun x hx => by
      have := rlink_any D p L x hl hD hp hB.2.1 (by rw [hB.1]; omega)
      rw [HAK.out, HY.out.1] at this
      exact this⟩
    clear hT hT2 hl hD hB hc hm hb1 r1 hS hlen
    go_enter Tryd.func4, Tryd.ntmps4
    go_upto_region 1 with fail
    (try simp only [HS.out])
    clear hw1
    go_upto_region 6 with (go_at_call 8; refine HAW.out.mono ?_; rintro e x1 ⟨rfl, hb⟩; have H1 : Box (Below w1.heap.size w1 x1) := ⟨hb⟩; clear hb)
    refine begin_keep (S := fun x => Below w1.heap.size w1 x) (by kernel_rfl) (fun wd hwd => ?_)
    have hS : Below w1.heap.size w1 wd := below_to H1.out (by rw [hwd]; exact (Below.refl _ _).drew)
    clear hwd
    refine take_s (i := 0) (v := .agg AK) rfl (by kernel_rfl) (by kernel_rfl) (by kernel_rfl) (fun _ _ _ h => h) (by rfl) (fun w' hLat => by rw [← HKI.out.2]; exact exec_load_mid 23 _ _ rfl Tryd.underlying23 rfl S 0 rfl (D.map (Value.int .u8)) HKI.out.1 (HX.out w' hLat)) hS ?_
    try simp only [Act.put, List.setIfInBounds_toArray, List.set_cons_zero, List.set_cons_succ, List.getElem_toArray, List.getElem_cons_zero]
    refine take_s (i := 1) (v := ?_) rfl (by kernel_rfl) (by kernel_rfl) (by kernel_rfl) (fun _ _ _ h => h) (by rfl) ?_ hS ?_
    rotate_left
    · intro w' hLat; clear hLat; go_simp <;> with_reducible rfl
    try simp only [Act.put, List.setIfInBounds_toArray, List.set_cons_zero, List.set_cons_succ, List.getElem_toArray, List.getElem_cons_zero, List.getElem_cons_succ]
    refine take_s (i := 2) (v := ?_) rfl (by kernel_rfl) (by kernel_rfl) (by kernel_rfl) (fun _ _ _ h => h) (by rfl) ?_ hS ?_
    rotate_left
    · intro w' hLat; clear hLat; go_simp <;> with_reducible rfl
    try simp only [Act.put, List.setIfInBounds_toArray, List.set_cons_zero, List.set_cons_succ, List.getElem_toArray, List.getElem_cons_zero, List.getElem_cons_succ]
    refine take_s (i := 4) (v := .agg AK) rfl (by kernel_rfl) (by kernel_rfl) (by kernel_rfl) (fun _ _ _ h => h) (by rfl) (fun w' hLat => by rw [← HKI.out.2]; exact exec_load_mid 23 _ _ rfl Tryd.underlying23 rfl S 0 rfl (D.map (Value.int .u8)) HKI.out.1 (HX.out w' hLat)) hS ?_
    try simp only [Act.put, List.setIfInBounds_toArray, List.set_cons_zero, List.set_cons_succ, List.getElem_toArray, List.getElem_cons_zero, List.getElem_cons_succ]
    refine take_s (i := 5) (v := ?_) rfl (by kernel_rfl) (by kernel_rfl) (by kernel_rfl) (fun _ _ _ h => h) (by rfl) ?_ hS ?_
    rotate_left
    · intro w' hLat; clear hLat; go_simp <;> with_reducible rfl
    try simp only [Act.put, List.setIfInBounds_toArray, List.set_cons_zero, List.set_cons_succ, List.getElem_toArray, List.getElem_cons_zero, List.getElem_cons_succ]
    refine take_s (i := 6) (v := ?_) rfl (by kernel_rfl) (by kernel_rfl) (by kernel_rfl) (fun _ _ _ h => h) (by rfl) ?_ hS ?_
    rotate_left
    · intro w' hLat; clear hLat; go_simp <;> with_reducible rfl
    try simp only [Act.put, List.setIfInBounds_toArray, List.set_cons_zero, List.set_cons_succ, List.getElem_toArray, List.getElem_cons_zero, List.getElem_cons_succ]
    refine take_s (i := 7) (v := .string (strOfNums L)) rfl (by kernel_rfl) (by kernel_rfl) (by kernel_rfl) (fun _ _ _ h => h) (by rfl) (fun w' hLat => Seal.exec_conv _ rfl rfl (HBY.out w' hLat)) hS ?_
    try simp only [Act.put, List.setIfInBounds_toArray, List.set_cons_zero, List.set_cons_succ, List.getElem_toArray, List.getElem_cons_zero, List.getElem_cons_succ]
    refine one_keep (i := 3) (by kernel_rfl) ?_
    refine keep_step rfl (by rfl) ?_
    go_simp
    refine Calls.mono (HLK.out wd hS) ?_
    rintro e x3 ⟨rfl, hb3⟩
    have hS3 := hS
    have hS : Below w1.heap.size w1 x3 := below_to hS3 hb3
    refine ⟨hS, ?_⟩
    try simp only [Act.put, List.setIfInBounds_toArray, List.set_cons_zero, List.set_cons_succ, List.getElem_toArray, List.getElem_cons_zero, List.getElem_cons_succ]
    refine one_keep (i := 8) (by kernel_rfl) ?_
    refine keep_step rfl (by rfl) ?_
    go_simp
    refine Calls.mono (HLR.out x3 hS) ?_
    rintro e x4 ⟨rfl, hb4⟩
    have hS4 := hS
    have hS : Below w1.heap.size w1 x4 := below_to hS4 hb4
    refine ⟨hS, ?_⟩
    try simp only [Act.put, List.setIfInBounds_toArray, List.set_cons_zero, List.set_cons_succ, List.getElem_toArray, List.getElem_cons_zero, List.getElem_cons_succ]
    refine take_s (i := 9) (v := .bool true) rfl (by kernel_rfl) (by kernel_rfl) (by kernel_rfl) (fun _ _ _ h => h) (by rfl) (fun w' hLat => exec_eqSum _ _ _ rfl Y Y HY.out.2 HY.out.2 true (by simp) rfl rfl) hS ?_
    try simp only [Act.put, List.setIfInBounds_toArray, List.set_cons_zero, List.set_cons_succ, List.getElem_toArray, List.getElem_cons_zero, List.getElem_cons_succ]
    refine take_s (i := 10) (v := ?_) rfl (by kernel_rfl) (by kernel_rfl) (by kernel_rfl) (fun _ _ _ h => h) (by rfl) ?_ hS ?_
    rotate_left
    · intro w' hLat; clear hLat; go_simp <;> with_reducible rfl
    try simp only [Act.put, List.setIfInBounds_toArray, List.set_cons_zero, List.set_cons_succ, List.getElem_toArray, List.getElem_cons_zero, List.getElem_cons_succ]
    refine wpAnyH_done (by kernel_rfl) ?_ _
    have HE : Box _ := ⟨HFI.out x4 hS⟩
    clear hS hS3 hS4 hb3 hb4
    go_wp2
    go_ret
    exact ⟨rfl, HE.out⟩
  · have hd : decide ((1000 : Int) < (len : Int)) = true := by simp; omega
    clear hT hT2 hl hD hB hc hm hb1 r1 hS hlen
    go_enter Tryd.func4, Tryd.ntmps4
    go_upto_region 1 with fail
    (try simp only [HS.out])
    clear hw1
    go_wp2_with (go_at_call 8; refine HAW.out.mono ?_; rintro e x1 ⟨rfl, hb⟩; have H1 : Box (Below w1.heap.size w1 x1) := ⟨hb⟩; clear hb)
    go_ret
    exact ⟨rfl, HFI.out x1 H1.out⟩
theorem journalLinks_walk (D : List Int) (p : Int) (a : Option Addr) (len cap : Nat) (z : List Int) (w : World) (hT : Dig.Tabs w) (hT2 : Seal.Tab w) (hl : D.length = 32) (hD : Byt D) (hp : (Lit.int .u32 p).wf = true) (hr : IsRow .u8 w a len cap z) :
    Calls Tryd.prog 4 #[.agg (u8s D), .int .u32 p, .slice a len cap] w fun e w' => e = .returned (.bool true) ∧ Below w.heap.size w w' := by
  have b := bounds_u32 hp
  obtain ⟨h1, h2, h3⟩ := hr.pc
  exact journalLinks_core D p a len cap (z.take len) w hT hT2 hl hD ⟨by omega, by omega⟩ h1 h2 h3
end Go.Proofs.YtipdaaajnbjnjaaDoor
