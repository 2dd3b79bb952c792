/-
 What takes, State, Empty and Adopt of package journal answer.
-/
import Derived.Test.YthfobaeafapbnaaDoorQ01
import Derived.Test.YthfobaeafapbnaaDoorQ25
set_option linter.unusedVariables false
set_option maxRecDepth 100000
namespace Go.Proofs.YthfobaeafapbnaaDoor
open Go.RowKit Plain
attribute [local go_sem] Oper.semAt_some
theorem JC.jrd {w0 w x : World} {J D : Nat} {fp : Nat -> Prop} {j : Jt} {d : Disk.Dk} (h : JC w0 w J D fp j d) (hb : Below w.heap.size w x) : Jrd x J D j := (h.below hb).rd
def tke (j : Jt) (n : Nat) : Int := if j.size - j.st.count < n then 17 else if j.lim < j.nx + (n : Int) then 15 else 0
set_option maxHeartbeats 2000000 in
theorem takes_any {w : World} {J D : Nat} {j : Jt} (h : w.heap[J]? = some (.cells (jcs D j).toArray 78 (0, 0))) (ok : j.Ok) (n : Nat) (hn : n <= 1000000) : Calls Tryd.prog 36 #[.pointer (some ⟨J, 0, none⟩), .int .u64 (n : Int)] w fun e w' => e = .returned (.int .i64 (tke j n)) /\ Below w.heap.size w w' := by
 have hlt := (Array.getElem?_eq_some_iff.1 h).1
 have HR : Box (Calls Tryd.prog 12 #[.pointer (some ⟨J, 0, none⟩)] w fun e w' => e = .returned (.int .u64 ((j.size - j.st.count : Nat) : Int)) /\ Below w.heap.size w w') := ⟨(room_any (jrd_of h ok.key ok.st) ok).mono fun e w' ⟨h1, m, h2⟩ => ⟨h1, by rw [h2]; exact below_drewN (Below.refl _ _) m⟩⟩
 have HJ : Box (∀ x, Below w.heap.size w x -> x.cell? ⟨J, 69, none⟩ = some (.int .u64 j.nx) /\ x.cell? ⟨J, 70, none⟩ = some (.int .u64 j.lim)) := ⟨fun x hx => by
  have := jrd_of ((hx.block J hlt).trans h) ok.key ok.st
  exact ⟨this.nx, this.lim⟩⟩
 have hnx := ok.nx
 have hlm := ok.lim
 have hn2 : 0 <= (n : Int) /\ (n : Int) <= 18446744073709551615 := by omega
 have HA : Box (∀ (x : World) (N : Nat), N = x.heap.size -> Calls Tryd.prog 54 #[.slice (some ⟨N, 0, none⟩) 2 2] (x.alloc (.cells #[.int .u64 j.nx, .int .u64 (n : Int)] 24)) fun e w' => e = addEnd (j.nx + (n : Int)) /\ x.alloc (.cells #[.int .u64 j.nx, .int .u64 (n : Int)] 24) = w') := ⟨fun x N hN => add2 x N hN _ _ (by omega) hn2⟩
 clear h ok
 obtain ⟨r, hr⟩ : ∃ r, j.size - j.st.count = r := ⟨_, rfl⟩
 by_cases h1 : r < n
 ·have e : tke j n = 17 := by unfold tke; rw [hr, if_pos h1]
  rw [e]
  rw [hr] at HR
  have d1 : decide (r < n) = true := by simpa using h1
  clear h1 hr e
  go_enter Tryd.func36, Tryd.ntmps36
  go_wp2_with (go_at_call 12; refine HR.out.mono ?_; rintro e x1 ⟨rfl, hb⟩; have H1 : Box (Below w.heap.size w x1) := ⟨hb⟩; clear hb)
  go_ret
  exact ⟨rfl, H1.out⟩
 ·have d1 : decide (r < n) = false := by simpa using h1
  rw [hr] at HR
  by_cases h2 : j.nx + (n : Int) <= 18446744073709551615
  ·have ea := addEnd_ok h2
   by_cases h3 : j.lim < j.nx + (n : Int)
   ·have e : tke j n = 15 := by unfold tke; rw [hr, if_neg h1, if_pos h3]
    rw [e]
    have d3 : decide (j.lim < j.nx + (n : Int)) = true := by simpa using h3
    generalize j.nx + (n : Int) = s at *
    rw [ea] at HA
    clear h1 h2 h3 hr e ea hnx hlm hn2 hn hlt
    go_enter Tryd.func36, Tryd.ntmps36
    go_upto_region 3 with (go_at_call 12; refine HR.out.mono ?_; rintro e x1 ⟨rfl, hb⟩; have H1 : Box (Below w.heap.size w x1) := ⟨hb⟩; have c1 := (HJ.out x1 hb).1; clear hb)
    obtain ⟨x2, hx2⟩ : ∃ x2, x1.alloc (.cells #[.int .u64 j.nx, .int .u64 (n : Int)] 24) = x2 := ⟨_, rfl⟩
    have hb2 : Below w.heap.size w x2 := by rw [<- hx2]; exact H1.out.alloc H1.out.size _
    have c2 := (HJ.out x2 hb2).2
    have HA1 : Box (∀ N, N = x1.heap.size -> Calls Tryd.prog 54 #[.slice (some ⟨N, 0, none⟩) 2 2] x2 _) := ⟨fun N hN => by have := HA.out x1 N hN; rw [hx2] at this; exact this⟩
    have H2 : Box (Below w.heap.size w x2) := ⟨hb2⟩
    clear hb2 HA HR HJ
    go_wp2_with (go_at_call 54; refine (HA1.out _ rfl).mono ?_; rintro e x3 ⟨rfl, rfl⟩)
    go_ret
    exact ⟨rfl, H2.out⟩
   ·have e : tke j n = 0 := by unfold tke; rw [hr, if_neg h1, if_neg h3]
    rw [e]
    have d3 : decide (j.lim < j.nx + (n : Int)) = false := by simpa using h3
    generalize j.nx + (n : Int) = s at *
    rw [ea] at HA
    clear h1 h2 h3 hr e ea hnx hlm hn2 hn hlt
    go_enter Tryd.func36, Tryd.ntmps36
    go_upto_region 3 with (go_at_call 12; refine HR.out.mono ?_; rintro e x1 ⟨rfl, hb⟩; have H1 : Box (Below w.heap.size w x1) := ⟨hb⟩; have c1 := (HJ.out x1 hb).1; clear hb)
    obtain ⟨x2, hx2⟩ : ∃ x2, x1.alloc (.cells #[.int .u64 j.nx, .int .u64 (n : Int)] 24) = x2 := ⟨_, rfl⟩
    have hb2 : Below w.heap.size w x2 := by rw [<- hx2]; exact H1.out.alloc H1.out.size _
    have c2 := (HJ.out x2 hb2).2
    have HA1 : Box (∀ N, N = x1.heap.size -> Calls Tryd.prog 54 #[.slice (some ⟨N, 0, none⟩) 2 2] x2 _) := ⟨fun N hN => by have := HA.out x1 N hN; rw [hx2] at this; exact this⟩
    have H2 : Box (Below w.heap.size w x2) := ⟨hb2⟩
    clear hb2 HA HR HJ
    go_wp2_with (go_at_call 54; refine (HA1.out _ rfl).mono ?_; rintro e x3 ⟨rfl, rfl⟩)
    go_ret
    exact ⟨rfl, H2.out⟩
  ·have ea := addEnd_no (s := j.nx + (n : Int)) (by omega)
   have e : tke j n = 15 := by unfold tke; rw [hr, if_neg h1, if_pos (by omega)]
   rw [e]
   generalize j.nx + (n : Int) = s at *
   rw [ea] at HA
   clear h1 hr e ea hnx hlm hn2 hn hlt
   go_enter Tryd.func36, Tryd.ntmps36
   go_upto_region 3 with (go_at_call 12; refine HR.out.mono ?_; rintro e x1 ⟨rfl, hb⟩; have H1 : Box (Below w.heap.size w x1) := ⟨hb⟩; have c1 := (HJ.out x1 hb).1; clear hb)
   obtain ⟨x2, hx2⟩ : ∃ x2, x1.alloc (.cells #[.int .u64 j.nx, .int .u64 (n : Int)] 24) = x2 := ⟨_, rfl⟩
   have hb2 : Below w.heap.size w x2 := by rw [<- hx2]; exact H1.out.alloc H1.out.size _
   have c2 := (HJ.out x2 hb2).2
   have HA1 : Box (∀ N, N = x1.heap.size -> Calls Tryd.prog 54 #[.slice (some ⟨N, 0, none⟩) 2 2] x2 _) := ⟨fun N hN => by have := HA.out x1 N hN; rw [hx2] at this; exact this⟩
   have H2 : Box (Below w.heap.size w x2) := ⟨hb2⟩
   clear hb2 HA HR HJ
   go_wp2_with (go_at_call 54; refine (HA1.out _ rfl).mono ?_; rintro e x3 ⟨rfl, rfl⟩)
   go_ret
   exact ⟨rfl, H2.out⟩
set_option maxHeartbeats 2000000 in
theorem state_any {w : World} {J D : Nat} {j : Jt} (hrow : w.heap[J]? = some (.cells (jcs D j).toArray 78 (0, 0))) (ok : j.Ok) : Calls Tryd.prog 11 #[.pointer (some ⟨J, 0, none⟩)] w fun e w' => e = .returned (.tuple #[.agg (sa j.st), .int .u64 j.nx]) /\ Below w.heap.size w w' := by
 obtain ⟨S, hS⟩ : ∃ S, w.heap.size = S := ⟨_, rfl⟩
 obtain ⟨w1, hw1⟩ : ∃ w1, w.alloc (.cells (sa zs) 26) = w1 := ⟨_, rfl⟩
 have hb1 : Below w.heap.size w w1 := by rw [<- hw1]; exact (Below.refl _ _).alloc (Nat.le_refl _) _
 have h1 : w1.heap[S]? = some (.cells (sa zs) 26 (0, 0)) := by rw [<- hw1]; exact al_at hS
 have hJ := (Array.getElem?_eq_some_iff.1 hrow).1
 have HNO : Box (Calls Tryd.prog 30 #[.pointer (some ⟨J, 0, none⟩)] w1 fun e w' => e = .returned (.bool false) /\ w1 = w') := ⟨none_no (jrd_of ((hb1.block J hJ).trans hrow) ok.key ok.st) ok.lo⟩
 have HN : Box (w.heap.size = S) := ⟨hS⟩
 have HVR : Box (∀ x, Below w1.heap.size w1 x -> x.rangeAt J 35 (scs j.st) /\ x.cell? ⟨J, 69, none⟩ = some (.int .u64 j.nx)) := ⟨fun x hx => by
  have := jrd_of (((below_to hb1 hx).block J hJ).trans hrow) ok.key ok.st
  exact ⟨this.st, this.nx⟩⟩
 have HSR : Box (∀ x, Below w1.heap.size w1 x -> x.heap[S]? = some (.cells (sa zs) 26 (0, 0))) := ⟨fun x hx => (hx.block S (Array.getElem?_eq_some_iff.1 h1).1).trans h1⟩
 have HSZ : Box ((sa j.st).size = 34 /\ (sa zs).size = 34 /\ (Tryd.prog.info? 26).map (·.size) = some (sa j.st).toList.length /\ (Tryd.prog.info? 26).map (·.size) = some (scs j.st).length /\ (Tryd.prog.info? 26).map (·.size) = some (sa j.st).size) := ⟨size_sa ok.st, size_sa okS_zs, by rw [Array.length_toList, size_sa ok.st]; exact infoSt, by rw [len_scs ok.st]; exact infoSt, by rw [size_sa ok.st]; exact infoSt⟩
 have HFO : Box (∀ x y, Below w1.heap.size w1 x -> x.setCells S 0 (sa j.st).toList = y -> (y.rangeAt J 35 (scs j.st) /\ y.cell? ⟨J, 69, none⟩ = some (.int .u64 j.nx)) /\ y.heap[S]? = some (.cells (sa j.st) 26 (0, 0)) /\ Below w.heap.size w y) := ⟨fun x y hx hy => by
  have hb : But S x y := by rw [<- hy]; exact but_setCells S _ 0 _ _ (But.refl _ _)
  have hzs := HSZ.out
  have hz := (below_to hb1 hx).size
  refine ⟨⟨but_range hb (HVR.out x hx).1 (by omega), but_cell hb (HVR.out x hx).2 (by show J ≠ S; omega)⟩, ?_, below_but (below_to hb1 hx) hb (by omega) hz⟩
  rw [<- hy, Disk.heap_setCells S _ _ 0 _ _ (HSR.out x hx) (by simp only [Array.length_toList]; omega), Disk.splice_all _ _ (by simp only [Array.length_toList]; omega)]⟩
 clear h1 hb1 hS hrow ok hJ
 go_enter Tryd.func11, Tryd.ntmps11
 go_upto_region 1 with (refine atAlloc _ ?_; refine wpList_run rfl _ _ (exec_alloc 26 rfl _ zeroSt) ?_)
 simp only [HN.out]
 clear hw1
 go_upto_region 3 with (go_at_call 30; refine HNO.out.mono ?_; rintro e x1 ⟨rfl, rfl⟩)
 refine begin_keep (S := fun x => x.rangeAt J 35 (scs j.st) /\ x.cell? ⟨J, 69, none⟩ = some (.int .u64 j.nx)) (by kernel_rfl) (fun wd hwd => ?_)
 have hbd : Below w1.heap.size w1 wd := by rw [hwd]; exact (Below.refl _ _).drew
 clear hwd
 have hS := HVR.out wd hbd
 refine take_x (i := 0) (v := ?_) rfl ?_ hS ?_
 rotate_left
 ·rintro w' -; go_simp <;> with_reducible rfl
 try simp only [Act.put, pC, pD, pE, pF, pG]
 refine take_x (i := 1) (v := ?_) rfl ?_ hS ?_
 rotate_left
 ·rintro w' -; go_simp <;> with_reducible rfl
 try simp only [Act.put, pC, pD, pE, pF, pG, pH]
 refine take_x (i := 2) (v := ?_) rfl ?_ hS ?_
 rotate_left
 ·rintro w' -; go_simp <;> with_reducible rfl
 try simp only [Act.put, pC, pD, pE, pF, pG, pH]
 refine take_x (i := 3) (v := .agg (sa j.st)) rfl (fun w' hLat => exec_load_mid 26 _ _ rfl Tryd.underlying26 rfl J 35 rfl (scs j.st) HSZ.out.2.2.2.1 hLat.1) hS ?_
 try simp only [Act.put, pC, pD, pE, pF, pG, pH]
 refine take_x (i := 4) (v := ?_) rfl ?_ hS ?_
 rotate_left
 ·rintro w' -; go_simp <;> with_reducible rfl
 try simp only [Act.put, pC, pD, pE, pF, pG, pH]
 refine take_x (i := 5) (v := ?_) rfl ?_ hS ?_
 rotate_left
 ·rintro w' -; go_simp <;> with_reducible rfl
 try simp only [Act.put, pC, pD, pE, pF, pG, pH]
 refine take_x (i := 6) (v := ?_) rfl ?_ hS ?_
 rotate_left
 ·rintro w' -; go_simp <;> with_reducible rfl
 try simp only [Act.put, pC, pD, pE, pF, pG, pH]
 refine take_x (i := 7) (v := .int .u64 j.nx) rfl (fun w' hLat => exec_load1 24 _ _ rfl Tryd.underlying24 rfl _ rfl _ hLat.2) hS ?_
 try simp only [Act.put, pC, pD, pE, pF, pG, pH]
 refine one_keep (i := 8) (by kernel_rfl) ?_
 refine keep_step rfl (by rfl) ?_
 refine wp_store_mid 26 (.tmp 2) (.tmp 10) rfl S 0 (sa j.st) rfl rfl (there_row (HSR.out wd hbd) (by have h1 := HSZ.out.1; have h2 := HSZ.out.2.1; omega)) HSZ.out.2.2.2.2 (all_sa j.st) ?_
 obtain ⟨y, hy⟩ : ∃ y, wd.setCells S 0 (sa j.st).toList = y := ⟨_, rfl⟩
 rw [hy]
 have HFY : Box _ := ⟨HFO.out wd y hbd hy⟩
 have hS := HFY.out.1
 refine ⟨hS, ?_⟩
 try simp only [Act.put, pF, pG, pH]
 refine take_x (i := 9) (v := ?_) rfl ?_ hS ?_
 rotate_left
 ·rintro w' -; go_simp <;> with_reducible rfl
 try simp only [Act.put, pC, pD, pE, pF, pG, pH]
 refine wpAnyH_done (by kernel_rfl) ?_ _
 clear hS hy hbd
 go_wp2
 refine bodyPost_ret (results_row2 (t := 2) (u := 3) rfl _ Tryd.underlying26 rfl _ _ S (sa j.st) HSZ.out.2.2.2.2 rfl HFY.out.2.1) rfl ?_
 exact ⟨rfl, HFY.out.2.2⟩
theorem exec_addU {o : Oper} {ρ : Operand -> Value} {w' : World} (x y : Operand) (ty : TypeId) (ho : o.op = .binOp .add 24 x y ty) (a b v : Int) (hw : IntKind.u64.wrap (a + b) = v) (hx : ρ x = .int .u64 a) (hy : ρ y = .int .u64 b) :
  (execOp ρ o).run Tryd.prog w' = .ok (.value (.int .u64 v)) w' := by
 unfold execOp
 simp [ho, hx, hy, eqGuard, binOp, Op.intArith, hw]
def ety (j : Jt) : Jst := ⟨(j.st.start + j.st.count) % j.size, 0, z32⟩
theorem okS_ety (j : Jt) (ok : j.Ok) : OkS (ety j) := ⟨len_z32, byt_z32, by have := Nat.mod_lt (j.st.start + j.st.count) ok.lo; have := ok.hi; show (j.st.start + j.st.count) % j.size <= _; omega, Nat.zero_le _⟩
set_option maxHeartbeats 2000000 in
theorem empty_any {w : World} {J D : Nat} {j : Jt} (hrow : w.heap[J]? = some (.cells (jcs D j).toArray 78 (0, 0))) (ok : j.Ok) : Calls Tryd.prog 13 #[.pointer (some ⟨J, 0, none⟩)] w fun e w' => e = .returned (.agg (sa (ety j))) /\ Below w.heap.size w w' := by
 obtain ⟨S, hS⟩ : ∃ S, w.heap.size = S := ⟨_, rfl⟩
 obtain ⟨w1, hw1⟩ : ∃ w1, w.alloc (.cells (sa zs) 26) = w1 := ⟨_, rfl⟩
 have hb1 : Below w.heap.size w w1 := by rw [<- hw1]; exact (Below.refl _ _).alloc (Nat.le_refl _) _
 have h1 : w1.heap[S]? = some (.cells (sa zs) 26 (0, 0)) := by rw [<- hw1]; exact al_at hS
 have hJ := (Array.getElem?_eq_some_iff.1 hrow).1
 have HNO : Box (Calls Tryd.prog 30 #[.pointer (some ⟨J, 0, none⟩)] w1 fun e w' => e = .returned (.bool false) /\ w1 = w') := ⟨none_no (jrd_of ((hb1.block J hJ).trans hrow) ok.key ok.st) ok.lo⟩
 have HN : Box (w.heap.size = S) := ⟨hS⟩
 have HVR : Box (∀ x, Below w1.heap.size w1 x -> x.cell? ⟨J, 35, none⟩ = some (.int .u64 (j.st.start : Int)) /\ x.cell? ⟨J, 36, none⟩ = some (.int .u64 (j.st.count : Int))) := ⟨fun x hx => by
  have := jrd_of (((below_to hb1 hx).block J hJ).trans hrow) ok.key ok.st
  exact ⟨this.start, this.count⟩⟩
 have HRS : Box (∀ x, Below w1.heap.size w1 x -> Calls Tryd.prog 31 #[.pointer (some ⟨J, 0, none⟩), .int .u64 ((j.st.start + j.st.count : Nat) : Int)] x fun e w' => e = .returned (.int .u64 (((j.st.start + j.st.count) % j.size : Nat) : Int)) /\ x = w') := ⟨fun x hx => rest_any (jrd_of (((below_to hb1 hx).block J hJ).trans hrow) ok.key ok.st) ok.lo _ _ rfl⟩
 have HSR : Box (∀ x, Below w1.heap.size w1 x -> x.heap[S]? = some (.cells (sa zs) 26 (0, 0))) := ⟨fun x hx => (hx.block S (Array.getElem?_eq_some_iff.1 h1).1).trans h1⟩
 have oke := okS_ety j ok
 have HBU : Box (Tryd.prog.built 26 [(0, .int .u64 (((j.st.start + j.st.count) % j.size : Nat) : Int))] = some (sa (ety j))) := ⟨built_St1 _⟩
 have HWR : Box (IntKind.u64.wrap ((j.st.start : Int) + (j.st.count : Int)) = ((j.st.start + j.st.count : Nat) : Int)) := ⟨by rw [IntKind.wrap_u64]; have := ok.sl; have := ok.cl; have := ok.hi; omega⟩
 obtain ⟨E, hE⟩ : ∃ E, ety j = E := ⟨_, rfl⟩
 rw [hE] at oke HBU
 rw [hE]
 have HSZ : Box ((sa E).size = 34 /\ (sa zs).size = 34 /\ (Tryd.prog.info? 26).map (·.size) = some (sa E).size) := ⟨size_sa oke, size_sa okS_zs, by rw [size_sa oke]; exact infoSt⟩
 have HFO : Box (∀ x y, Below w1.heap.size w1 x -> x.setCells S 0 (sa E).toList = y -> (y.cell? ⟨J, 35, none⟩ = some (.int .u64 (j.st.start : Int)) /\ y.cell? ⟨J, 36, none⟩ = some (.int .u64 (j.st.count : Int))) /\ y.heap[S]? = some (.cells (sa E) 26 (0, 0)) /\ Below w.heap.size w y) := ⟨fun x y hx hy => by
  have hb : But S x y := by rw [<- hy]; exact but_setCells S _ 0 _ _ (But.refl _ _)
  have hzs := HSZ.out
  have hz := (below_to hb1 hx).size
  refine ⟨⟨but_cell hb (HVR.out x hx).1 (by show J ≠ S; omega), but_cell hb (HVR.out x hx).2 (by show J ≠ S; omega)⟩, ?_, below_but (below_to hb1 hx) hb (by omega) hz⟩
  rw [<- hy, Disk.heap_setCells S _ _ 0 _ _ (HSR.out x hx) (by simp only [Array.length_toList]; omega), Disk.splice_all _ _ (by simp only [Array.length_toList]; omega)]⟩
 clear h1 hb1 hS hrow ok hJ oke hE
 go_enter Tryd.func13, Tryd.ntmps13
 go_upto_region 1 with (refine atAlloc _ ?_; refine wpList_run rfl _ _ (exec_alloc 26 rfl _ zeroSt) ?_)
 simp only [HN.out, hw1]
 clear hw1
 go_upto_region 3 with (go_at_call 30; refine HNO.out.mono ?_; rintro e x1 ⟨rfl, rfl⟩)
 refine begin_keep (S := fun x => x.cell? ⟨J, 35, none⟩ = some (.int .u64 (j.st.start : Int)) /\ x.cell? ⟨J, 36, none⟩ = some (.int .u64 (j.st.count : Int))) (by kernel_rfl) (fun wd hwd => ?_)
 have hbd : Below w1.heap.size w1 wd := by rw [hwd]; exact (Below.refl _ _).drew
 clear hwd
 have hS := HVR.out wd hbd
 refine take_x (i := 0) (v := ?_) rfl ?_ hS ?_
 rotate_left
 ·rintro w' -; go_simp <;> with_reducible rfl
 try simp only [Act.put, pC, pD, pE, pF, pG]
 refine take_x (i := 1) (v := ?_) rfl ?_ hS ?_
 rotate_left
 ·rintro w' -; go_simp <;> with_reducible rfl
 try simp only [Act.put, pC, pD, pE, pF, pG, pH]
 refine take_x (i := 2) (v := ?_) rfl ?_ hS ?_
 rotate_left
 ·rintro w' -; go_simp <;> with_reducible rfl
 try simp only [Act.put, pC, pD, pE, pF, pG, pH]
 refine take_x (i := 3) (v := ?_) rfl ?_ hS ?_
 rotate_left
 ·rintro w' -; go_simp <;> with_reducible rfl
 try simp only [Act.put, pC, pD, pE, pF, pG, pH]
 refine take_x (i := 4) (v := ?_) rfl ?_ hS ?_
 rotate_left
 ·rintro w' -; go_simp <;> with_reducible rfl
 try simp only [Act.put, pC, pD, pE, pF, pG, pH]
 refine take_x (i := 5) (v := .int .u64 (j.st.start : Int)) rfl (fun w' hLat => exec_load1 24 _ _ rfl Tryd.underlying24 rfl _ rfl _ hLat.1) hS ?_
 try simp only [Act.put, pC, pD, pE, pF, pG, pH]
 refine take_x (i := 6) (v := ?_) rfl ?_ hS ?_
 rotate_left
 ·rintro w' -; go_simp <;> with_reducible rfl
 try simp only [Act.put, pC, pD, pE, pF, pG, pH]
 refine take_x (i := 7) (v := ?_) rfl ?_ hS ?_
 rotate_left
 ·rintro w' -; go_simp <;> with_reducible rfl
 try simp only [Act.put, pC, pD, pE, pF, pG, pH]
 refine take_x (i := 8) (v := ?_) rfl ?_ hS ?_
 rotate_left
 ·rintro w' -; go_simp <;> with_reducible rfl
 try simp only [Act.put, pC, pD, pE, pF, pG, pH]
 refine take_x (i := 9) (v := ?_) rfl ?_ hS ?_
 rotate_left
 ·rintro w' -; go_simp <;> with_reducible rfl
 try simp only [Act.put, pC, pD, pE, pF, pG, pH]
 refine take_x (i := 10) (v := .int .u64 (j.st.count : Int)) rfl (fun w' hLat => exec_load1 24 _ _ rfl Tryd.underlying24 rfl _ rfl _ hLat.2) hS ?_
 try simp only [Act.put, pC, pD, pE, pF, pG, pH]
 refine take_x (i := 11) (v := .int .u64 ((j.st.start + j.st.count : Nat) : Int)) rfl (fun w' hLat => exec_addU _ _ _ rfl _ _ _ HWR.out rfl rfl) hS ?_
 try simp only [Act.put, pC, pD, pE, pF, pG, pH]
 refine one_keep (i := 12) (by kernel_rfl) ?_
 refine keep_step rfl (by rfl) ?_
 go_simp
 refine Calls.mono (HRS.out wd hbd) ?_
 rintro e x8 ⟨rfl, rfl⟩
 refine ⟨hS, ?_⟩
 try simp only [Act.put, pC, pD, pE, pF, pG, pH]
 refine take_x (i := 13) (v := .agg (sa E)) rfl (fun w' hLat => exec_built 26 [(0, .tmp 18)] rfl [(0, .int .u64 (((j.st.start + j.st.count) % j.size : Nat) : Int))] rfl _ HBU.out) hS ?_
 try simp only [Act.put, pC, pD, pE, pF, pG, pH]
 refine one_keep (i := 14) (by kernel_rfl) ?_
 refine keep_step rfl (by rfl) ?_
 refine wp_store_mid 26 (.tmp 2) (.tmp 19) rfl S 0 (sa E) rfl rfl (there_row (HSR.out wd hbd) (by have h1 := HSZ.out.1; have h2 := HSZ.out.2.1; omega)) HSZ.out.2.2 (all_sa E) ?_
 obtain ⟨y, hy⟩ : ∃ y, wd.setCells S 0 (sa E).toList = y := ⟨_, rfl⟩
 rw [hy]
 have HFY : Box _ := ⟨HFO.out wd y hbd hy⟩
 have hS := HFY.out.1
 refine ⟨hS, ?_⟩
 try simp only [Act.put, pF, pG, pH]
 refine wpAnyH_done (by kernel_rfl) ?_ _
 clear hS hy hbd
 go_wp2
 refine bodyPost_ret (results_cell_row (p := 2) (ty := 26) rfl _ _ S 26 (sa E) (0, 0) _ rfl HFY.out.2.1 Tryd.underlying26 rfl HSZ.out.2.2) rfl ?_
 exact ⟨rfl, HFY.out.2.2⟩
end Go.Proofs.YthfobaeafapbnaaDoor
