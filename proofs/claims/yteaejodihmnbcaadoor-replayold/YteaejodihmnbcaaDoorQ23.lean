/-
  What takes, State, Empty and Adopt of package journal answer. And what follows it.
-/
import Derived.Test.YteaejodihmnbcaaDoorQ22
import Derived.Test.YteaejodihmnbcaaDoorQ19
namespace Go.Proofs.YteaejodihmnbcaaDoor
set_option maxRecDepth 100000
set_option linter.unusedVariables false
open Go.RowKit Plain
attribute [local go_sem] Oper.semAt_some
theorem JC.jrd {w0 w x : World} {J D : Nat} {fp : Nat → Prop} {j : Jt} {d : Disk.Dk} (h : JC w0 w J D fp j d) (hb : Below w.heap.size w x) : Jrd x J D j := (h.below hb).rd
/-- Why so many records can't be written. -/
def tke (j : Jt) (n : Nat) : Int := if j.size - j.st.count < n then 17 else if j.lim < j.nx + (n : Int) then 15 else 0
set_option maxHeartbeats 2000000 in
theorem takes_any {w : World} {J D : Nat} {j : Jt} (h : w.heap[J]? = some (.cells (jcs D j).toArray 74 (0, 0))) (ok : j.Ok) (n : Nat) (hn : n ≤ 1000000) : Calls Tryd.prog 29 #[.pointer (some ⟨J, 0, none⟩), .int .u64 (n : Int)] w fun e w' => e = .returned (.int .i64 (tke j n)) ∧ Below w.heap.size w w' := by
  have hlt := (Array.getElem?_eq_some_iff.1 h).1
  have HR : Box (Calls Tryd.prog 44 #[.pointer (some ⟨J, 0, none⟩)] w fun e w' => e = .returned (.int .u64 ((j.size - j.st.count : Nat) : Int)) ∧ Below w.heap.size w w') := ⟨(room_any (jrd_of h ok.key ok.st) ok).mono fun e w' ⟨h1, m, h2⟩ => ⟨h1, by rw [h2]; exact below_drewN (Below.refl _ _) m⟩⟩
  have HJ : Box (∀ x, Below w.heap.size w x → x.cell? ⟨J, 69, none⟩ = some (.int .u64 j.nx) ∧ x.cell? ⟨J, 70, none⟩ = some (.int .u64 j.lim)) := ⟨fun x hx => by
    have := jrd_of ((hx.block J hlt).trans h) ok.key ok.st
    exact ⟨this.nx, this.lim⟩⟩
  have hnx := ok.nx
  have hlm := ok.lim
  have hn2 : 0 ≤ (n : Int) ∧ (n : Int) ≤ 18446744073709551615 := by omega
  have HA : Box (∀ (x : World) (N : Nat), N = x.heap.size → Calls Tryd.prog 45 #[.slice (some ⟨N, 0, none⟩) 2 2] (x.alloc (.cells #[.int .u64 j.nx, .int .u64 (n : Int)] 33)) fun e w' => e = addEnd (j.nx + (n : Int)) ∧ x.alloc (.cells #[.int .u64 j.nx, .int .u64 (n : Int)] 33) = w') := ⟨fun x N hN => add2 x N hN _ _ (by omega) hn2⟩
  clear h ok
  obtain ⟨r, hr⟩ : ∃ r, j.size - j.st.count = r := ⟨_, rfl⟩
  by_cases h1 : r < n
  · have e : tke j n = 17 := by unfold tke; rw [hr, if_pos h1]
    rw [e]
    rw [hr] at HR
    have d1 : decide (r < n) = true := by simpa using h1
    clear h1 hr e
    go_enter Tryd.func29, Tryd.ntmps29
    go_wp2_with (go_at_call 44; refine HR.out.mono ?_; rintro e x1 ⟨rfl, hb⟩; have H1 : Box (Below w.heap.size w x1) := ⟨hb⟩; clear hb)
    go_ret
    exact ⟨rfl, H1.out⟩
  · have d1 : decide (r < n) = false := by simpa using h1
    rw [hr] at HR
    by_cases h2 : j.nx + (n : Int) ≤ 18446744073709551615
    · have ea := addEnd_ok h2
      by_cases h3 : j.lim < j.nx + (n : Int)
      · have e : tke j n = 15 := by unfold tke; rw [hr, if_neg h1, if_pos h3]
        rw [e]
        have d3 : decide (j.lim < j.nx + (n : Int)) = true := by simpa using h3
        generalize j.nx + (n : Int) = s at *
        rw [ea] at HA
        clear h1 h2 h3 hr e ea hnx hlm hn2 hn hlt
        go_enter Tryd.func29, Tryd.ntmps29
        go_upto_region 3 with (go_at_call 44; refine HR.out.mono ?_; rintro e x1 ⟨rfl, hb⟩; have H1 : Box (Below w.heap.size w x1) := ⟨hb⟩; have c1 := (HJ.out x1 hb).1; clear hb)
        obtain ⟨x2, hx2⟩ : ∃ x2, x1.alloc (.cells #[.int .u64 j.nx, .int .u64 (n : Int)] 33) = x2 := ⟨_, rfl⟩
        have hb2 : Below w.heap.size w x2 := by rw [← hx2]; exact H1.out.alloc H1.out.size _
        have c2 := (HJ.out x2 hb2).2
        have HA1 : Box (∀ N, N = x1.heap.size → Calls Tryd.prog 45 #[.slice (some ⟨N, 0, none⟩) 2 2] x2 _) := ⟨fun N hN => by have := HA.out x1 N hN; rw [hx2] at this; exact this⟩
        have H2 : Box (Below w.heap.size w x2) := ⟨hb2⟩
        clear hb2 HA HR HJ
        go_wp2_with (go_at_call 45; refine (HA1.out _ rfl).mono ?_; rintro e x3 ⟨rfl, rfl⟩)
        go_ret
        exact ⟨rfl, H2.out⟩
      · have e : tke j n = 0 := by unfold tke; rw [hr, if_neg h1, if_neg h3]
        rw [e]
        have d3 : decide (j.lim < j.nx + (n : Int)) = false := by simpa using h3
        generalize j.nx + (n : Int) = s at *
        rw [ea] at HA
        clear h1 h2 h3 hr e ea hnx hlm hn2 hn hlt
        go_enter Tryd.func29, Tryd.ntmps29
        go_upto_region 3 with (go_at_call 44; refine HR.out.mono ?_; rintro e x1 ⟨rfl, hb⟩; have H1 : Box (Below w.heap.size w x1) := ⟨hb⟩; have c1 := (HJ.out x1 hb).1; clear hb)
        obtain ⟨x2, hx2⟩ : ∃ x2, x1.alloc (.cells #[.int .u64 j.nx, .int .u64 (n : Int)] 33) = x2 := ⟨_, rfl⟩
        have hb2 : Below w.heap.size w x2 := by rw [← hx2]; exact H1.out.alloc H1.out.size _
        have c2 := (HJ.out x2 hb2).2
        have HA1 : Box (∀ N, N = x1.heap.size → Calls Tryd.prog 45 #[.slice (some ⟨N, 0, none⟩) 2 2] x2 _) := ⟨fun N hN => by have := HA.out x1 N hN; rw [hx2] at this; exact this⟩
        have H2 : Box (Below w.heap.size w x2) := ⟨hb2⟩
        clear hb2 HA HR HJ
        go_wp2_with (go_at_call 45; refine (HA1.out _ rfl).mono ?_; rintro e x3 ⟨rfl, rfl⟩)
        go_ret
        exact ⟨rfl, H2.out⟩
    · have ea := addEnd_no (s := j.nx + (n : Int)) (by omega)
      have e : tke j n = 15 := by unfold tke; rw [hr, if_neg h1, if_pos (by omega)]
      rw [e]
      generalize j.nx + (n : Int) = s at *
      rw [ea] at HA
      clear h1 hr e ea hnx hlm hn2 hn hlt
      go_enter Tryd.func29, Tryd.ntmps29
      go_upto_region 3 with (go_at_call 44; refine HR.out.mono ?_; rintro e x1 ⟨rfl, hb⟩; have H1 : Box (Below w.heap.size w x1) := ⟨hb⟩; have c1 := (HJ.out x1 hb).1; clear hb)
      obtain ⟨x2, hx2⟩ : ∃ x2, x1.alloc (.cells #[.int .u64 j.nx, .int .u64 (n : Int)] 33) = x2 := ⟨_, rfl⟩
      have hb2 : Below w.heap.size w x2 := by rw [← hx2]; exact H1.out.alloc H1.out.size _
      have c2 := (HJ.out x2 hb2).2
      have HA1 : Box (∀ N, N = x1.heap.size → Calls Tryd.prog 45 #[.slice (some ⟨N, 0, none⟩) 2 2] x2 _) := ⟨fun N hN => by have := HA.out x1 N hN; rw [hx2] at this; exact this⟩
      have H2 : Box (Below w.heap.size w x2) := ⟨hb2⟩
      clear hb2 HA HR HJ
      go_wp2_with (go_at_call 45; refine (HA1.out _ rfl).mono ?_; rintro e x3 ⟨rfl, rfl⟩)
      go_ret
      exact ⟨rfl, H2.out⟩
set_option maxHeartbeats 2000000 in
theorem state_any {w : World} {J D : Nat} {j : Jt} (hrow : w.heap[J]? = some (.cells (jcs D j).toArray 74 (0, 0))) (ok : j.Ok) : Calls Tryd.prog 17 #[.pointer (some ⟨J, 0, none⟩)] w fun e w' => e = .returned (.tuple #[.agg (sa j.st), .int .u64 j.nx]) ∧ Below w.heap.size w w' := by
  obtain ⟨S, hS⟩ : ∃ S, w.heap.size = S := ⟨_, rfl⟩
  obtain ⟨w1, hw1⟩ : ∃ w1, w.alloc (.cells (sa zs) 48) = w1 := ⟨_, rfl⟩
  have hb1 : Below w.heap.size w w1 := by rw [← hw1]; exact (Below.refl _ _).alloc (Nat.le_refl _) _
  have h1 : w1.heap[S]? = some (.cells (sa zs) 48 (0, 0)) := by rw [← hw1]; exact al_at hS
  have hJ := (Array.getElem?_eq_some_iff.1 hrow).1
  have HNO : Box (Calls Tryd.prog 27 #[.pointer (some ⟨J, 0, none⟩)] w1 fun e w' => e = .returned (.bool false) ∧ w1 = w') := ⟨none_no (jrd_of ((hb1.block J hJ).trans hrow) ok.key ok.st) ok.lo⟩
  have HN : Box (w.heap.size = S) := ⟨hS⟩
  have HVR : Box (∀ x, Below w1.heap.size w1 x → x.rangeAt J 35 (scs j.st) ∧ x.cell? ⟨J, 69, none⟩ = some (.int .u64 j.nx)) := ⟨fun x hx => by
    have := jrd_of (((below_to hb1 hx).block J hJ).trans hrow) ok.key ok.st
    exact ⟨this.st, this.nx⟩⟩
  have HSR : Box (∀ x, Below w1.heap.size w1 x → x.heap[S]? = some (.cells (sa zs) 48 (0, 0))) := ⟨fun x hx => (hx.block S (Array.getElem?_eq_some_iff.1 h1).1).trans h1⟩
  have HSZ : Box ((sa j.st).size = 34 ∧ (sa zs).size = 34 ∧ (Tryd.prog.info? 48).map (·.size) = some (sa j.st).toList.length ∧ (Tryd.prog.info? 48).map (·.size) = some (scs j.st).length ∧ (Tryd.prog.info? 48).map (·.size) = some (sa j.st).size) := ⟨size_sa ok.st, size_sa okS_zs, by rw [Array.length_toList, size_sa ok.st]; exact infoSt, by rw [len_scs ok.st]; exact infoSt, by rw [size_sa ok.st]; exact infoSt⟩
  have HFO : Box (∀ x y, Below w1.heap.size w1 x → x.setCells S 0 (sa j.st).toList = y → (y.rangeAt J 35 (scs j.st) ∧ y.cell? ⟨J, 69, none⟩ = some (.int .u64 j.nx)) ∧ y.heap[S]? = some (.cells (sa j.st) 48 (0, 0)) ∧ Below w.heap.size w y) := ⟨fun x y hx hy => by
    have hb : But S x y := by rw [← hy]; exact but_setCells S _ 0 _ _ (But.refl _ _)
    have hzs := HSZ.out
    have hz := (below_to hb1 hx).size
    refine ⟨⟨but_range hb (HVR.out x hx).1 (by omega), but_cell hb (HVR.out x hx).2 (by show J ≠ S; omega)⟩, ?_, below_but (below_to hb1 hx) hb (by omega) hz⟩
    rw [← hy, Disk.heap_setCells S _ _ 0 _ _ (HSR.out x hx) (by simp only [Array.length_toList]; omega), Disk.splice_all _ _ (by simp only [Array.length_toList]; omega)]⟩
  clear h1 hb1 hS hrow ok hJ
  go_enter Tryd.func17, Tryd.ntmps17
  go_upto_region 1 with (refine atAlloc _ ?_; refine wpList_run rfl _ _ (exec_alloc 48 rfl _ zeroSt) ?_)
  simp only [HN.out]
  clear hw1
  go_upto_region 3 with (go_at_call 27; refine HNO.out.mono ?_; rintro e x1 ⟨rfl, rfl⟩)
  refine begin_keep (S := fun x => x.rangeAt J 35 (scs j.st) ∧ x.cell? ⟨J, 69, none⟩ = some (.int .u64 j.nx)) (by kernel_rfl) (fun wd hwd => ?_)
  have hbd : Below w1.heap.size w1 wd := by rw [hwd]; exact (Below.refl _ _).drew
  clear hwd
  have hS := HVR.out wd hbd
  refine take_s (i := 0) (v := ?_) rfl (by kernel_rfl) (by kernel_rfl) (by kernel_rfl) (fun _ _ _ h => h) (by rfl) ?_ hS ?_
  rotate_left
  · intro w' hLat; clear hLat; go_simp <;> with_reducible rfl
  try simp only [Act.put, List.setIfInBounds_toArray, List.set_cons_zero, List.set_cons_succ, List.getElem_toArray, List.getElem_cons_zero]
  refine take_s (i := 1) (v := ?_) rfl (by kernel_rfl) (by kernel_rfl) (by kernel_rfl) (fun _ _ _ h => h) (by rfl) ?_ hS ?_
  rotate_left
  · intro w' hLat; clear hLat; go_simp <;> with_reducible rfl
  try simp only [Act.put, List.setIfInBounds_toArray, List.set_cons_zero, List.set_cons_succ, List.getElem_toArray, List.getElem_cons_zero, List.getElem_cons_succ]
  refine take_s (i := 2) (v := ?_) rfl (by kernel_rfl) (by kernel_rfl) (by kernel_rfl) (fun _ _ _ h => h) (by rfl) ?_ hS ?_
  rotate_left
  · intro w' hLat; clear hLat; go_simp <;> with_reducible rfl
  try simp only [Act.put, List.setIfInBounds_toArray, List.set_cons_zero, List.set_cons_succ, List.getElem_toArray, List.getElem_cons_zero, List.getElem_cons_succ]
  refine take_s (i := 3) (v := .agg (sa j.st)) rfl (by kernel_rfl) (by kernel_rfl) (by kernel_rfl) (fun _ _ _ h => h) (by rfl) (fun w' hLat => exec_load_mid 48 _ _ rfl Tryd.underlying48 rfl J 35 rfl (scs j.st) HSZ.out.2.2.2.1 hLat.1) hS ?_
  try simp only [Act.put, List.setIfInBounds_toArray, List.set_cons_zero, List.set_cons_succ, List.getElem_toArray, List.getElem_cons_zero, List.getElem_cons_succ]
  refine take_s (i := 4) (v := ?_) rfl (by kernel_rfl) (by kernel_rfl) (by kernel_rfl) (fun _ _ _ h => h) (by rfl) ?_ hS ?_
  rotate_left
  · intro w' hLat; clear hLat; go_simp <;> with_reducible rfl
  try simp only [Act.put, List.setIfInBounds_toArray, List.set_cons_zero, List.set_cons_succ, List.getElem_toArray, List.getElem_cons_zero, List.getElem_cons_succ]
  refine take_s (i := 5) (v := ?_) rfl (by kernel_rfl) (by kernel_rfl) (by kernel_rfl) (fun _ _ _ h => h) (by rfl) ?_ hS ?_
  rotate_left
  · intro w' hLat; clear hLat; go_simp <;> with_reducible rfl
  try simp only [Act.put, List.setIfInBounds_toArray, List.set_cons_zero, List.set_cons_succ, List.getElem_toArray, List.getElem_cons_zero, List.getElem_cons_succ]
  refine take_s (i := 6) (v := ?_) rfl (by kernel_rfl) (by kernel_rfl) (by kernel_rfl) (fun _ _ _ h => h) (by rfl) ?_ hS ?_
  rotate_left
  · intro w' hLat; clear hLat; go_simp <;> with_reducible rfl
  try simp only [Act.put, List.setIfInBounds_toArray, List.set_cons_zero, List.set_cons_succ, List.getElem_toArray, List.getElem_cons_zero, List.getElem_cons_succ]
  refine take_s (i := 7) (v := .int .u64 j.nx) rfl (by kernel_rfl) (by kernel_rfl) (by kernel_rfl) (fun _ _ _ h => h) (by rfl) (fun w' hLat => exec_load1 33 _ _ rfl Tryd.underlying33 rfl _ rfl _ hLat.2) hS ?_
  try simp only [Act.put, List.setIfInBounds_toArray, List.set_cons_zero, List.set_cons_succ, List.getElem_toArray, List.getElem_cons_zero, List.getElem_cons_succ]
  refine one_keep (i := 8) (by kernel_rfl) ?_
  refine keep_step rfl (by rfl) ?_
  refine wp_store_mid 48 (.tmp 2) (.tmp 10) rfl S 0 (sa j.st) rfl rfl (there_row (HSR.out wd hbd) (by have h1 := HSZ.out.1; have h2 := HSZ.out.2.1; omega)) HSZ.out.2.2.2.2 (all_sa j.st) ?_
  obtain ⟨y, hy⟩ : ∃ y, wd.setCells S 0 (sa j.st).toList = y := ⟨_, rfl⟩
  rw [hy]
  have HFY : Box _ := ⟨HFO.out wd y hbd hy⟩
  have hS := HFY.out.1
  refine ⟨hS, ?_⟩
  try simp only [Act.put, List.getElem_toArray, List.getElem_cons_zero, List.getElem_cons_succ]
  refine take_s (i := 9) (v := ?_) rfl (by kernel_rfl) (by kernel_rfl) (by kernel_rfl) (fun _ _ _ h => h) (by rfl) ?_ hS ?_
  rotate_left
  · intro w' hLat; clear hLat; go_simp <;> with_reducible rfl
  try simp only [Act.put, List.setIfInBounds_toArray, List.set_cons_zero, List.set_cons_succ, List.getElem_toArray, List.getElem_cons_zero, List.getElem_cons_succ]
  refine wpAnyH_done (by kernel_rfl) ?_ _
  clear hS hy hbd
  go_wp2
  refine bodyPost_ret (results_row2 (t := 2) (u := 3) rfl _ Tryd.underlying48 rfl _ _ S (sa j.st) HSZ.out.2.2.2.2 rfl HFY.out.2.1) rfl ?_
  exact ⟨rfl, HFY.out.2.2⟩
end Go.Proofs.YteaejodihmnbcaaDoor
namespace Go.Proofs.YteaejodihmnbcaaDoor
set_option maxRecDepth 100000
set_option linter.unusedVariables false
open Go.RowKit Plain
attribute [local go_sem] Oper.semAt_some
def mn63 (x : Int) : Int := min x 9223372036854775807
def adp (j : Jt) (s : Jst) (lim : Int) : Jt := if may j.size s = true then { j with st := s, lim := mn63 lim } else j
theorem range_sa {w : World} {g : Nat} {s : Jst} {t : TypeId} (h : w.heap[g]? = some (.cells (sa s) t (0, 0))) : w.rangeAt g 0 (scs s) := fun j x hx => by
  rw [cell_of_row _ _ _ _ _ _ h, Nat.zero_add]
  simpa [sa] using hx
theorem may_ok {n : Nat} {s : Jst} (h : may n s = true) : s.start < n ∧ s.count ≤ n := by simpa [may] using h
theorem ok_adp {j : Jt} (ok : j.Ok) {s : Jst} (hs : OkS s) {lim : Int} (hl : 0 ≤ lim) : (adp j s lim).Ok := by
  unfold adp
  split
  · rename_i h
    have := may_ok h
    exact ⟨ok.key, ok.kb, ok.lo, ok.hi, hs, this.1, this.2, ok.nx, by show 0 ≤ mn63 lim ∧ mn63 lim ≤ _; unfold mn63; omega⟩
  · exact ok
set_option maxHeartbeats 2000000 in
theorem adopt_v {w0 w : World} {J D : Nat} {fp : Nat → Prop} {j : Jt} {d : Disk.Dk} (C : JC w0 w J D fp j d) (s : Jst) (hs : OkS s) (lim : Int) (hl : 0 ≤ lim ∧ lim ≤ 18446744073709551615) :
    Calls Tryd.prog 16 #[.pointer (some ⟨J, 0, none⟩), .agg (sa s), .int .u64 lim] w fun e w' => e = .returned (.tuple #[]) ∧ JC w0 w' J D fp (adp j s lim) d ∧ Fw (fun k => k = J) w w' fp fp := by
  obtain ⟨S, hS⟩ : ∃ S, w.heap.size = S := ⟨_, rfl⟩
  obtain ⟨w1, hw1⟩ : ∃ w1, w.alloc (.cells (sa s) 48) = w1 := ⟨_, rfl⟩
  have hb1 : Below w.heap.size w w1 := by rw [← hw1]; exact (Below.refl _ _).alloc (Nat.le_refl _) _
  have h1 : w1.heap[S]? = some (.cells (sa s) 48 (0, 0)) := by rw [← hw1]; exact al_at hS
  have C1 := C.below hb1
  have HNO : Box (Calls Tryd.prog 27 #[.pointer (some ⟨J, 0, none⟩)] w1 fun e w' => e = .returned (.bool false) ∧ w1 = w') := ⟨none_no C1.rd C.ok.lo⟩
  have HMA : Box (Calls Tryd.prog 26 #[.pointer (some ⟨J, 0, none⟩), .agg (sa s)] w1 fun e w' => e = .returned (.bool (may j.size s)) ∧ Below w1.heap.size w1 w') := ⟨mayBe_any C1.rd s C1.lt⟩
  have HR : Box (∀ x, Below w1.heap.size w1 x → x.rangeAt S 0 (scs s)) := ⟨fun x hx => range_sa ((hx.block S (Array.getElem?_eq_some_iff.1 h1).1).trans h1)⟩
  have HIR : Box ((Tryd.prog.info? 48).map (·.size) = some (scs s).length ∧ (Tryd.prog.info? 48).map (·.size) = some (sa s).size) := ⟨by rw [len_scs hs]; exact infoSt, by rw [size_sa hs]; exact infoSt⟩
  have HN : Box (w.heap.size = S) := ⟨hS⟩
  by_cases hm : may j.size s = true
  · have HFO : Box (∀ x y : World, Below w1.heap.size w1 x → x.setCells J 35 (sa s).toList = y → y.cell? ⟨J, 70, none⟩ = some (.int .u64 j.lim) ∧ y.frozen? ⟨J, 70, none⟩ = false ∧ x.there J 35 (sa s).size ∧ ∀ v : Int, v = mn63 lim → JC w0 (y.setCell ⟨J, 70, none⟩ (.int .u64 v)) J D fp (adp j s lim) d ∧ Fw (fun k => k = J) w (y.setCell ⟨J, 70, none⟩ (.int .u64 v)) fp fp) := ⟨fun x y hx hy => by
      have Cx := C1.below hx
      have hlen : (jcs D j).length = 71 := len_jq _ _ _ _ _ _ _ C.ok.key C.ok.st
      have hrow2 : y.heap[J]? = some (.cells (jcs D { j with st := s }).toArray 74 (0, 0)) := by
        rw [← hy, toList_sa, setCells_row J _ (scs s) 35 (jcs D j) x Cx.row (by rw [len_scs hs, hlen]; omega)]
        rw [jcs, jq_s _ _ _ _ _ _ _ _ C.ok.key C.ok.st hs]
        rfl
      have hb2 : But J x y := by rw [← hy]; exact but_setCells J _ 35 _ _ (But.refl _ _)
      have hmm := may_ok hm
      have ok2 : ({ j with st := s } : Jt).Ok := ⟨C.ok.key, C.ok.kb, C.ok.lo, C.ok.hi, hs, hmm.1, hmm.2, C.ok.nx, C.ok.lim⟩
      have C2 : JC w0 y J D fp { j with st := s } d := Cx.turn hb2 hrow2 ok2 rfl rfl
      refine ⟨C2.rd.lim, frozen_of_row _ _ _ _ _ C2.row, there_row Cx.row (by rw [size_sa hs, List.size_toArray, hlen]; omega), fun v hv => ?_⟩
      have hb3 : But J y (y.setCell ⟨J, 70, none⟩ (.int .u64 v)) := (But.refl _ _).setCell 70 _
      have ea : adp j s lim = { j with st := s, lim := v } := by unfold adp; rw [if_pos hm, hv]
      have ok3 := ok_adp C.ok hs (lim := lim) hl.1
      rw [ea] at ok3 ⊢
      refine ⟨C2.turn hb3 ?_ ok3 rfl rfl, (Fw.below _ fp (below_to hb1 hx)).trans ((Fw.of_but (fun k => k = J) rfl hb2 fp).trans (Fw.of_but (fun k => k = J) rfl hb3 fp))⟩
      have := heap_setCell_same y J 70 _ _ (.int .u64 v) hrow2
      rw [this, List.setIfInBounds_toArray, jcs, jq_y _ _ _ _ _ _ _ _ C.ok.key hs]
      rfl⟩
    rw [hm] at HMA
    clear hS h1 C1 hb1 C hs hm
    go_enter Tryd.func16, Tryd.ntmps16
    go_upto_region 1 with fail
    (try simp only [HN.out])
    clear hw1
    go_upto_region 2 with (first
      | (go_at_call 27; refine HNO.out.mono ?_; rintro e x1 ⟨rfl, rfl⟩)
      | (go_at_call 26; refine HMA.out.mono ?_; rintro e x2 ⟨rfl, hb⟩; have H2 : Box (Below w1.heap.size w1 x2) := ⟨hb⟩; clear hb)
      | (refine atLoad 48 ?_; refine wpList_runG (by rfl) _ _ (exec_load_mid 48 _ _ rfl Tryd.underlying48 rfl S 0 rfl (scs s) HIR.out.1 (HR.out w1 (Below.refl _ _))) ?_))
    obtain ⟨y, hy⟩ : ∃ y, x2.setCells J 35 (sa s).toList = y := ⟨_, rfl⟩
    obtain ⟨c1, f1, th, HF⟩ := HFO.out x2 y H2.out hy
    have HTH : Box (x2.there J 35 (sa s).size) := ⟨th⟩
    have HFF : Box (∀ v : Int, v = mn63 lim → JC w0 (y.setCell ⟨J, 70, none⟩ (.int .u64 v)) J D fp (adp j s lim) d ∧ Fw (fun k => k = J) w (y.setCell ⟨J, 70, none⟩ (.int .u64 v)) fp fp) := ⟨HF⟩
    have HR2 : Box (x2.rangeAt S 0 (scs s)) := ⟨HR.out x2 H2.out⟩
    clear th HF HFO
    go_upto_region 3 with (first
      | (refine atLoad 48 ?_; refine wpList_ldMid rfl 48 _ _ rfl Tryd.underlying48 rfl S 0 rfl (scs s) HIR.out.1 HR2.out ?_)
      | (refine atStore _ ?_; refine wpList_store_mid rfl 48 _ _ rfl J 35 (sa s) rfl rfl HTH.out HIR.out.2 (all_sa s) ?_; rw [hy]))
    go_wp2
    all_goals go_end0
    all_goals exact ⟨rfl, HFF.out _ (by first | rfl | (unfold mn63; omega))⟩
  · have hm' : may j.size s = false := by simpa using hm
    rw [hm'] at HMA
    have HFO : Box (∀ x, Below w1.heap.size w1 x → JC w0 x J D fp (adp j s lim) d ∧ Fw (fun k => k = J) w x fp fp) := ⟨fun x hx => by
      have ea : adp j s lim = j := by unfold adp; rw [if_neg hm]
      rw [ea]
      exact ⟨C1.below hx, Fw.below _ fp (below_to hb1 hx)⟩⟩
    clear hS h1 C1 hb1 C hs hm hm'
    go_enter Tryd.func16, Tryd.ntmps16
    go_upto_region 1 with fail
    (try simp only [HN.out])
    clear hw1
    go_wp2_with (first
      | (go_at_call 27; refine HNO.out.mono ?_; rintro e x1 ⟨rfl, rfl⟩)
      | (go_at_call 26; refine HMA.out.mono ?_; rintro e x2 ⟨rfl, hb⟩; have H2 : Box (Below w1.heap.size w1 x2) := ⟨hb⟩; clear hb)
      | (refine atLoad 48 ?_; refine wpList_runG (by rfl) _ _ (exec_load_mid 48 _ _ rfl Tryd.underlying48 rfl S 0 rfl (scs s) HIR.out.1 (HR.out w1 (Below.refl _ _))) ?_))
    refine bodyPost_ret (results_none rfl _ _ _) rfl ?_
    exact ⟨rfl, HFO.out x2 H2.out⟩
set_option maxHeartbeats 4000000 in
theorem jnew_ok {w0 w : World} {D : Nat} {fp : Nat → Prop} {d : Disk.Dk} (C : Disk.Cx w0 w D fp d) (K : List Int) (hK : K.length = 32 ∧ Byt K) (f n : Nat) (h1 : 1 ≤ n) (hfit : f + n ≤ d.n) (hdn : d.n ≤ 4096) (s : Jst) (hs : OkS s) (hm : may n s = true) (nx lim : Int) (hn : 1 ≤ nx ∧ nx ≤ 18446744073709551615) (hl : 0 ≤ lim ∧ lim ≤ 9223372036854775807) (hT : Dig.Tabs w0) (hT2 : Seal.Tab w0) :
    Calls Tryd.prog 14 #[.pointer (some ⟨D, 0, none⟩), .agg (u8s K), .int .i64 (f : Int), .int .i64 (n : Int), .agg (sa s), .int .u64 nx, .int .u64 lim] w fun e w' => ∃ J, e = .returned (.tuple #[.pointer (some ⟨J, 0, none⟩), .int .i64 0]) ∧ JC w0 w' J D fp ⟨K, f, n, s, nx, lim⟩ d ∧ Below w.heap.size w w' ∧ w.heap.size ≤ J := by
  obtain ⟨S, hS⟩ : ∃ S, w.heap.size = S := ⟨_, rfl⟩
  obtain ⟨AK, hAK⟩ : ∃ A, u8s K = A := ⟨_, rfl⟩
  obtain ⟨w1, hw1⟩ : ∃ w1, (w.alloc (.cells AK 39)).alloc (.cells (sa s) 48) = w1 := ⟨_, rfl⟩
  have hb1 : Below w.heap.size w w1 := by rw [← hw1]; exact ((Below.refl _ _).alloc (Nat.le_refl _) _).alloc (by simp) _
  have k1 : w1.heap[S]? = some (.cells AK 39 (0, 0)) := by rw [← hw1]; exact al_old (al_at hS)
  have k2 : w1.heap[S + 1]? = some (.cells (sa s) 48 (0, 0)) := by rw [← hw1]; exact al_at (by simp [hS])
  have hmm := may_ok hm
  have okj : (⟨K, f, n, s, nx, lim⟩ : Jt).Ok := ⟨hK.1, hK.2, h1, by show f + n ≤ 4096; omega, hs, hmm.1, hmm.2, hn, hl⟩
  have HSI : Box (Calls Tryd.prog 25 #[.pointer (some ⟨D, 0, none⟩)] w1 fun e w' => e = .returned (.int .i64 (d.n : Int)) ∧ w1 = w') := ⟨Disk.size_cx (C.step hb1)⟩
  obtain ⟨J, hJ⟩ : ∃ J, w1.heap.size = J := ⟨_, rfl⟩
  obtain ⟨w2, hw2⟩ : ∃ w2, w1.alloc (.cells (jq (.pointer (some ⟨D, 0, none⟩)) K (f : Int) (n : Int) s nx lim).toArray 74) = w2 := ⟨_, rfl⟩
  have hb2 : Below w1.heap.size w1 w2 := by rw [← hw2]; exact (Below.refl _ _).alloc (Nat.le_refl _) _
  have r2 : w2.heap[J]? = some (.cells (jcs D ⟨K, f, n, s, nx, lim⟩).toArray 74 (0, 0)) := by rw [← hw2]; exact al_at hJ
  have HC : Box (JC w0 w2 J D fp ⟨K, f, n, s, nx, lim⟩ d) := ⟨⟨C.step (below_to hb1 hb2), r2, by have := C.bel.size; have := hb1.size; omega, fun hf => by have := C.hi J hf; have := hb1.size; omega, okj, hfit, hT, hT2⟩⟩
  have HMA : Box (Calls Tryd.prog 26 #[.pointer (some ⟨J, 0, none⟩), .agg (sa s)] w2 fun e w' => e = .returned (.bool true) ∧ Below w2.heap.size w2 w') := ⟨by have := mayBe_any HC.out.rd s HC.out.lt; rw [show may (⟨K, f, n, s, nx, lim⟩ : Jt).size s = true from hm] at this; exact this⟩
  have HK1 : Box (∀ x, Below w1.heap.size w1 x → x.rangeAt S 0 (K.map (Value.int .u8)) ∧ x.rangeAt (S + 1) 0 (scs s)) := ⟨fun x hx => ⟨fun i v hv => by
    rw [cell_of_row _ _ _ _ _ _ ((hx.block S (Array.getElem?_eq_some_iff.1 k1).1).trans k1), Nat.zero_add, ← hAK]
    simpa [u8s] using hv, range_sa ((hx.block (S + 1) (Array.getElem?_eq_some_iff.1 k2).1).trans k2)⟩⟩
  have HIL : Box ((Tryd.prog.info? 39).map (·.size) = some (K.map (Value.int .u8)).length ∧ (Tryd.prog.info? 48).map (·.size) = some (scs s).length) := ⟨by rw [List.length_map, hK.1]; exact infoSum, by rw [len_scs hs]; exact infoSt⟩
  have HBJ : Box (Tryd.prog.built 74 [(0, .pointer (some ⟨D, 0, none⟩)), (1, .agg AK), (2, .int .u64 (f : Int)), (3, .int .u64 (n : Int)), (4, .agg (sa s)), (5, .int .u64 nx), (6, .int .u64 lim)] = some (jq (.pointer (some ⟨D, 0, none⟩)) K (f : Int) (n : Int) s nx lim).toArray) := ⟨by rw [← hAK]; exact built_J _ rfl K _ _ s nx lim hK.1 hs⟩
  have HAK : Box ((K.map (Value.int .u8)).toArray = AK ∧ (scs s).toArray = sa s) := ⟨by rw [← hAK]; rfl, rfl⟩
  have HFI : Box (Below w.heap.size w w2 ∧ w.heap.size ≤ J) := ⟨below_to hb1 hb2, by rw [← hJ]; exact hb1.size⟩
  obtain ⟨r, hr⟩ : ∃ r, d.n - f = r := ⟨_, rfl⟩
  have hwr : IntKind.i64.wrap ((d.n : Int) - (f : Int)) = (r : Int) := by rw [IntKind.wrap_i64]; omega
  have g1 : ¬ (f : Int) < 0 := by omega
  have g2 : ¬ (n : Int) < 1 := by omega
  have g3 : decide (r < n) = false := by simp; omega
  have hwf : IntKind.u64.wrap (f : Int) = (f : Int) := by rw [IntKind.wrap_u64]; omega
  have hwn : IntKind.u64.wrap (n : Int) = (n : Int) := by rw [IntKind.wrap_u64]; omega
  have g4 : (nx == 0) = false := by simp; omega
  have g5 : ¬ (9223372036854775807 : Int) < lim := by omega
  have hs2 : (w.alloc (.cells AK 39)).heap.size = S + 1 := by simp [hS]
  rw [hAK]
  have HJ : Box (w1.heap.size = J) := ⟨hJ⟩
  clear C hK h1 hfit hdn hs hm hn hl hT hT2 hmm okj k1 k2 hb1 hb2 r2 hAK hr hJ
  go_enter Tryd.func14, Tryd.ntmps14
  go_upto_region 1 with fail
  (try rw [hs2])
  (try simp only [hS, hw1])
  clear hs2 hw1 hS
  have HR1 := HK1.out w1 (Below.refl _ _)
  have HRa : Box (w1.rangeAt S 0 (K.map (Value.int .u8))) := ⟨HR1.1⟩
  have HRb : Box (w1.rangeAt (S + 1) 0 (scs s)) := ⟨HR1.2⟩
  clear HR1
  go_upto_region 4 with (first
    | (go_at_call 25; refine HSI.out.mono ?_; rintro e x1 ⟨rfl, rfl⟩)
    | (refine atLoad 39 ?_; refine wpList_ldMid rfl 39 _ _ rfl Tryd.underlying39 rfl S 0 rfl (K.map (Value.int .u8)) HIL.out.1 HRa.out ?_; rw [HAK.out.1])
    | (refine atLoad 48 ?_; refine wpList_ldMid rfl 48 _ _ rfl Tryd.underlying48 rfl (S + 1) 0 rfl (scs s) HIL.out.2 HRb.out ?_; rw [HAK.out.2])
    | (refine atBuild 74 ?_; refine wpList_run rfl _ _ (exec_built 74 [(0, .tmp 31), (1, .tmp 32), (2, .tmp 34), (3, .tmp 36), (4, .tmp 37), (5, .tmp 38), (6, .tmp 39)] rfl [(0, .pointer (some ⟨D, 0, none⟩)), (1, .agg AK), (2, .int .u64 (f : Int)), (3, .int .u64 (n : Int)), (4, .agg (sa s)), (5, .int .u64 nx), (6, .int .u64 lim)] rfl _ HBJ.out) ?_))
  (try simp only [HJ.out])
  have HRc : Box (w2.rangeAt (S + 1) 0 (scs s)) := ⟨(HK1.out w2 (by rw [← hw2]; exact (Below.refl _ _).alloc (Nat.le_refl _) _)).2⟩
  clear hw2 HRa HRb HK1 HSI HBJ
  go_wp2_with (first
    | (go_at_call 26; refine HMA.out.mono ?_; rintro e x2 ⟨rfl, hb⟩; have H2 : Box (Below w2.heap.size w2 x2) := ⟨hb⟩; clear hb)
    | (refine atLoad 48 ?_; refine wpList_ldMid rfl 48 _ _ rfl Tryd.underlying48 rfl (S + 1) 0 rfl (scs s) HIL.out.2 HRc.out ?_; rw [HAK.out.2]))
  go_ret2
  exact ⟨J, rfl, HC.out.below H2.out, below_to HFI.out.1 H2.out, HFI.out.2⟩
end Go.Proofs.YteaejodihmnbcaaDoor
