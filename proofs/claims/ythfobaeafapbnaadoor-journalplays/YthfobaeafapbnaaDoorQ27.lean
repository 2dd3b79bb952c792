/-
 What Adopt and New of package journal leave. And what follows it.
-/
import Derived.Test.YthfobaeafapbnaaDoorQ01
import Derived.Test.YthfobaeafapbnaaDoorQ26
set_option linter.unusedVariables false
set_option maxRecDepth 100000
namespace Go.Proofs.YthfobaeafapbnaaDoor
open Go.RowKit Plain
attribute [local go_sem] Oper.semAt_some
def mn63 (x : Int) : Int := min x 9223372036854775807
def adp (j : Jt) (s : Jst) (lim : Int) : Jt := if may j.size s = true then { j with st := s, lim := mn63 lim } else j
theorem range_sa {w : World} {g : Nat} {s : Jst} {t : TypeId} (h : w.heap[g]? = some (.cells (sa s) t (0, 0))) : w.rangeAt g 0 (scs s) := fun j x hx => by
 rw [cell_of_row _ _ _ _ _ _ h, Nat.zero_add]
 simpa [sa] using hx
theorem may_ok {n : Nat} {s : Jst} (h : may n s = true) : s.start < n /\ s.count <= n := by simpa [may] using h
theorem ok_adp {j : Jt} (ok : j.Ok) {s : Jst} (hs : OkS s) {lim : Int} (hl : 0 <= lim) : (adp j s lim).Ok := by
 unfold adp
 split
 ·rename_i h
  have := may_ok h
  exact ⟨ok.key, ok.kb, ok.lo, ok.hi, hs, this.1, this.2, ok.nx, by show 0 <= mn63 lim /\ mn63 lim <= _; unfold mn63; omega⟩
 ·exact ok
set_option maxHeartbeats 2000000 in
theorem adopt_v {w0 w : World} {J D : Nat} {fp : Nat -> Prop} {j : Jt} {d : Disk.Dk} (C : JC w0 w J D fp j d) (s : Jst) (hs : OkS s) (lim : Int) (hl : 0 <= lim /\ lim <= 18446744073709551615) :
  Calls Tryd.prog 17 #[.pointer (some ⟨J, 0, none⟩), .agg (sa s), .int .u64 lim] w fun e w' => e = .returned (.tuple #[]) /\ JC w0 w' J D fp (adp j s lim) d /\ Fw (fun k => k = J) w w' fp fp := by
 obtain ⟨S, hS⟩ : ∃ S, w.heap.size = S := ⟨_, rfl⟩
 obtain ⟨w1, hw1⟩ : ∃ w1, w.alloc (.cells (sa s) 26) = w1 := ⟨_, rfl⟩
 have hb1 : Below w.heap.size w w1 := by rw [<- hw1]; exact (Below.refl _ _).alloc (Nat.le_refl _) _
 have h1 : w1.heap[S]? = some (.cells (sa s) 26 (0, 0)) := by rw [<- hw1]; exact al_at hS
 have C1 := C.below hb1
 have HNO : Box (Calls Tryd.prog 30 #[.pointer (some ⟨J, 0, none⟩)] w1 fun e w' => e = .returned (.bool false) /\ w1 = w') := ⟨none_no C1.rd C.ok.lo⟩
 have HMA : Box (Calls Tryd.prog 21 #[.pointer (some ⟨J, 0, none⟩), .agg (sa s)] w1 fun e w' => e = .returned (.bool (may j.size s)) /\ Below w1.heap.size w1 w') := ⟨mayBe_any C1.rd s C1.lt⟩
 have HR : Box (∀ x, Below w1.heap.size w1 x -> x.rangeAt S 0 (scs s)) := ⟨fun x hx => range_sa ((hx.block S (Array.getElem?_eq_some_iff.1 h1).1).trans h1)⟩
 have HIR : Box ((Tryd.prog.info? 26).map (·.size) = some (scs s).length /\ (Tryd.prog.info? 26).map (·.size) = some (sa s).size) := ⟨by rw [len_scs hs]; exact infoSt, by rw [size_sa hs]; exact infoSt⟩
 have HN : Box (w.heap.size = S) := ⟨hS⟩
 by_cases hm : may j.size s = true
 ·have HFO : Box (∀ x y : World, Below w1.heap.size w1 x -> x.setCells J 35 (sa s).toList = y -> y.cell? ⟨J, 70, none⟩ = some (.int .u64 j.lim) /\ y.frozen? ⟨J, 70, none⟩ = false /\ x.there J 35 (sa s).size /\ ∀ v : Int, v = mn63 lim -> JC w0 (y.setCell ⟨J, 70, none⟩ (.int .u64 v)) J D fp (adp j s lim) d /\ Fw (fun k => k = J) w (y.setCell ⟨J, 70, none⟩ (.int .u64 v)) fp fp) := ⟨fun x y hx hy => by
   have Cx := C1.below hx
   have hlen : (jcs D j).length = 71 := len_jq _ _ _ _ _ _ _ C.ok.key C.ok.st
   have hrow2 : y.heap[J]? = some (.cells (jcs D { j with st := s }).toArray 78 (0, 0)) := by
    rw [<- hy, toList_sa, setCells_row J _ (scs s) 35 (jcs D j) x Cx.row (by rw [len_scs hs, hlen]; omega)]
    rw [jcs, jq_s _ _ _ _ _ _ _ _ C.ok.key C.ok.st hs]
    rfl
   have hb2 : But J x y := by rw [<- hy]; exact but_setCells J _ 35 _ _ (But.refl _ _)
   have hmm := may_ok hm
   have ok2 : ({ j with st := s } : Jt).Ok := ⟨C.ok.key, C.ok.kb, C.ok.lo, C.ok.hi, hs, hmm.1, hmm.2, C.ok.nx, C.ok.lim⟩
   have C2 : JC w0 y J D fp { j with st := s } d := Cx.turn hb2 hrow2 ok2 rfl rfl
   refine ⟨C2.rd.lim, frozen_of_row _ _ _ _ _ C2.row, there_row Cx.row (by rw [size_sa hs, List.size_toArray, hlen]; omega), fun v hv => ?_⟩
   have hb3 : But J y (y.setCell ⟨J, 70, none⟩ (.int .u64 v)) := (But.refl _ _).setCell 70 _
   have ea : adp j s lim = { j with st := s, lim := v } := by unfold adp; rw [if_pos hm, hv]
   have ok3 := ok_adp C.ok hs (lim := lim) hl.1
   rw [ea] at ok3 ⊢
   refine ⟨C2.turn hb3 ?_ ok3 rfl rfl, (Fw.below _ fp (below_to hb1 hx)).trans ((Fw.of_but (fun k => k = J) rfl hb2 fp).trans (Fw.of_but (fun k => k = J) rfl hb3 fp))⟩
   have := heap_setCell_same y J 70 _ _ (.int .u64 v) hrow2
   rw [this, List.setIfInBounds_toArray, jcs, jq_y _ _ _ _ _ _ _ _ C.ok.key hs]
   rfl⟩
  rw [hm] at HMA
  clear hS h1 C1 hb1 C hs hm
  go_enter Tryd.func17, Tryd.ntmps17
  go_upto_region 1 with fail
  (try simp only [HN.out])
  clear hw1
  go_upto_region 2 with (first
   | (go_at_call 30; refine HNO.out.mono ?_; rintro e x1 ⟨rfl, rfl⟩)
   | (go_at_call 21; refine HMA.out.mono ?_; rintro e x2 ⟨rfl, hb⟩; have H2 : Box (Below w1.heap.size w1 x2) := ⟨hb⟩; clear hb)
   | (refine atLoad 26 ?_; refine wpList_runG (by rfl) _ _ (exec_load_mid 26 _ _ rfl Tryd.underlying26 rfl S 0 rfl (scs s) HIR.out.1 (HR.out w1 (Below.refl _ _))) ?_))
  obtain ⟨y, hy⟩ : ∃ y, x2.setCells J 35 (sa s).toList = y := ⟨_, rfl⟩
  obtain ⟨c1, f1, th, HF⟩ := HFO.out x2 y H2.out hy
  have HTH : Box (x2.there J 35 (sa s).size) := ⟨th⟩
  have HFF : Box (∀ v : Int, v = mn63 lim -> JC w0 (y.setCell ⟨J, 70, none⟩ (.int .u64 v)) J D fp (adp j s lim) d /\ Fw (fun k => k = J) w (y.setCell ⟨J, 70, none⟩ (.int .u64 v)) fp fp) := ⟨HF⟩
  have HR2 : Box (x2.rangeAt S 0 (scs s)) := ⟨HR.out x2 H2.out⟩
  clear th HF HFO
  go_upto_region 3 with (first
   | (refine atLoad 26 ?_; refine wpList_ldMid rfl 26 _ _ rfl Tryd.underlying26 rfl S 0 rfl (scs s) HIR.out.1 HR2.out ?_)
   | (refine atStore _ ?_; refine wpList_store_mid rfl 26 _ _ rfl J 35 (sa s) rfl rfl HTH.out HIR.out.2 (all_sa s) ?_; rw [hy]))
  go_wp2
  all_goals go_end0
  all_goals exact ⟨rfl, HFF.out _ (by first | rfl | (unfold mn63; omega))⟩
 ·have hm' : may j.size s = false := by simpa using hm
  rw [hm'] at HMA
  have HFO : Box (∀ x, Below w1.heap.size w1 x -> JC w0 x J D fp (adp j s lim) d /\ Fw (fun k => k = J) w x fp fp) := ⟨fun x hx => by
   have ea : adp j s lim = j := by unfold adp; rw [if_neg hm]
   rw [ea]
   exact ⟨C1.below hx, Fw.below _ fp (below_to hb1 hx)⟩⟩
  clear hS h1 C1 hb1 C hs hm hm'
  go_enter Tryd.func17, Tryd.ntmps17
  go_upto_region 1 with fail
  (try simp only [HN.out])
  clear hw1
  go_wp2_with (first
   | (go_at_call 30; refine HNO.out.mono ?_; rintro e x1 ⟨rfl, rfl⟩)
   | (go_at_call 21; refine HMA.out.mono ?_; rintro e x2 ⟨rfl, hb⟩; have H2 : Box (Below w1.heap.size w1 x2) := ⟨hb⟩; clear hb)
   | (refine atLoad 26 ?_; refine wpList_runG (by rfl) _ _ (exec_load_mid 26 _ _ rfl Tryd.underlying26 rfl S 0 rfl (scs s) HIR.out.1 (HR.out w1 (Below.refl _ _))) ?_))
  refine bodyPost_ret (results_none rfl _ _ _) rfl ?_
  exact ⟨rfl, HFO.out x2 H2.out⟩
set_option maxHeartbeats 4000000 in
theorem jnew_ok {w0 w : World} {D : Nat} {fp : Nat -> Prop} {d : Disk.Dk} (C : Disk.Cx w0 w D fp d) (K : List Int) (hK : K.length = 32 /\ Byt K) (f n : Nat) (h1 : 1 <= n) (hfit : f + n <= d.n) (hdn : d.n <= 4096) (s : Jst) (hs : OkS s) (hm : may n s = true) (nx lim : Int) (hn : 1 <= nx /\ nx <= 18446744073709551615) (hl : 0 <= lim /\ lim <= 9223372036854775807) (hT : Dig.Tabs w0) (hT2 : Seal.Tab w0) :
  Calls Tryd.prog 7 #[.pointer (some ⟨D, 0, none⟩), .agg (u8s K), .int .i64 (f : Int), .int .i64 (n : Int), .agg (sa s), .int .u64 nx, .int .u64 lim] w fun e w' => ∃ J, e = .returned (.tuple #[.pointer (some ⟨J, 0, none⟩), .int .i64 0]) /\ JC w0 w' J D fp ⟨K, f, n, s, nx, lim⟩ d /\ Below w.heap.size w w' /\ w.heap.size <= J := by
 obtain ⟨S, hS⟩ : ∃ S, w.heap.size = S := ⟨_, rfl⟩
 obtain ⟨AK, hAK⟩ : ∃ A, u8s K = A := ⟨_, rfl⟩
 obtain ⟨w1, hw1⟩ : ∃ w1, (w.alloc (.cells AK 23)).alloc (.cells (sa s) 26) = w1 := ⟨_, rfl⟩
 have hb1 : Below w.heap.size w w1 := by rw [<- hw1]; exact ((Below.refl _ _).alloc (Nat.le_refl _) _).alloc (by simp) _
 have k1 : w1.heap[S]? = some (.cells AK 23 (0, 0)) := by rw [<- hw1]; exact al_old (al_at hS)
 have k2 : w1.heap[S + 1]? = some (.cells (sa s) 26 (0, 0)) := by rw [<- hw1]; exact al_at (by simp [hS])
 have hmm := may_ok hm
 have okj : (⟨K, f, n, s, nx, lim⟩ : Jt).Ok := ⟨hK.1, hK.2, h1, by show f + n <= 4096; omega, hs, hmm.1, hmm.2, hn, hl⟩
 have HSI : Box (Calls Tryd.prog 20 #[.pointer (some ⟨D, 0, none⟩)] w1 fun e w' => e = .returned (.int .i64 (d.n : Int)) /\ w1 = w') := ⟨Disk.size_cx (C.step hb1)⟩
 obtain ⟨J, hJ⟩ : ∃ J, w1.heap.size = J := ⟨_, rfl⟩
 obtain ⟨w2, hw2⟩ : ∃ w2, w1.alloc (.cells (jq (.pointer (some ⟨D, 0, none⟩)) K (f : Int) (n : Int) s nx lim).toArray 78) = w2 := ⟨_, rfl⟩
 have hb2 : Below w1.heap.size w1 w2 := by rw [<- hw2]; exact (Below.refl _ _).alloc (Nat.le_refl _) _
 have r2 : w2.heap[J]? = some (.cells (jcs D ⟨K, f, n, s, nx, lim⟩).toArray 78 (0, 0)) := by rw [<- hw2]; exact al_at hJ
 have HC : Box (JC w0 w2 J D fp ⟨K, f, n, s, nx, lim⟩ d) := ⟨⟨C.step (below_to hb1 hb2), r2, by have := C.bel.size; have := hb1.size; omega, fun hf => by have := C.hi J hf; have := hb1.size; omega, okj, hfit, hT, hT2⟩⟩
 have HMA : Box (Calls Tryd.prog 21 #[.pointer (some ⟨J, 0, none⟩), .agg (sa s)] w2 fun e w' => e = .returned (.bool true) /\ Below w2.heap.size w2 w') := ⟨by have := mayBe_any HC.out.rd s HC.out.lt; rw [show may (⟨K, f, n, s, nx, lim⟩ : Jt).size s = true from hm] at this; exact this⟩
 have HK1 : Box (∀ x, Below w1.heap.size w1 x -> x.rangeAt S 0 (K.map (Value.int .u8)) /\ x.rangeAt (S + 1) 0 (scs s)) := ⟨fun x hx => ⟨fun i v hv => by
  rw [cell_of_row _ _ _ _ _ _ ((hx.block S (Array.getElem?_eq_some_iff.1 k1).1).trans k1), Nat.zero_add, <- hAK]
  simpa [u8s] using hv, range_sa ((hx.block (S + 1) (Array.getElem?_eq_some_iff.1 k2).1).trans k2)⟩⟩
 have HIL : Box ((Tryd.prog.info? 23).map (·.size) = some (K.map (Value.int .u8)).length /\ (Tryd.prog.info? 26).map (·.size) = some (scs s).length) := ⟨by rw [List.length_map, hK.1]; exact infoSum, by rw [len_scs hs]; exact infoSt⟩
 have HBJ : Box (Tryd.prog.built 78 [(0, .pointer (some ⟨D, 0, none⟩)), (1, .agg AK), (2, .int .u64 (f : Int)), (3, .int .u64 (n : Int)), (4, .agg (sa s)), (5, .int .u64 nx), (6, .int .u64 lim)] = some (jq (.pointer (some ⟨D, 0, none⟩)) K (f : Int) (n : Int) s nx lim).toArray) := ⟨by rw [<- hAK]; exact built_J _ rfl K _ _ s nx lim hK.1 hs⟩
 have HAK : Box ((K.map (Value.int .u8)).toArray = AK /\ (scs s).toArray = sa s) := ⟨by rw [<- hAK]; rfl, rfl⟩
 have HFI : Box (Below w.heap.size w w2 /\ w.heap.size <= J) := ⟨below_to hb1 hb2, by rw [<- hJ]; exact hb1.size⟩
 obtain ⟨r, hr⟩ : ∃ r, d.n - f = r := ⟨_, rfl⟩
 have hwr : IntKind.i64.wrap ((d.n : Int) - (f : Int)) = (r : Int) := by rw [IntKind.wrap_i64]; omega
 have g1 : ¬ (f : Int) < 0 := by omega
 have g2 : ¬ (n : Int) < 1 := by omega
 have g3 : decide (r < n) = false := by simp; omega
 have hwf : IntKind.u64.wrap (f : Int) = (f : Int) := by rw [IntKind.wrap_u64]; omega
 have hwn : IntKind.u64.wrap (n : Int) = (n : Int) := by rw [IntKind.wrap_u64]; omega
 have g4 : (nx == 0) = false := by simp; omega
 have g5 : ¬ (9223372036854775807 : Int) < lim := by omega
 have hs2 : (w.alloc (.cells AK 23)).heap.size = S + 1 := by simp [hS]
 rw [hAK]
 have HJ : Box (w1.heap.size = J) := ⟨hJ⟩
 clear C hK h1 hfit hdn hs hm hn hl hT hT2 hmm okj k1 k2 hb1 hb2 r2 hAK hr hJ
 go_enter Tryd.func7, Tryd.ntmps7
 go_upto_region 1 with fail
 (try rw [hs2])
 (try simp only [hS, hw1])
 clear hs2 hw1 hS
 have HR1 := HK1.out w1 (Below.refl _ _)
 have HRa : Box (w1.rangeAt S 0 (K.map (Value.int .u8))) := ⟨HR1.1⟩
 have HRb : Box (w1.rangeAt (S + 1) 0 (scs s)) := ⟨HR1.2⟩
 clear HR1
 go_upto_region 4 with (first
  | (go_at_call 20; refine HSI.out.mono ?_; rintro e x1 ⟨rfl, rfl⟩)
  | (refine atLoad 23 ?_; refine wpList_ldMid rfl 23 _ _ rfl Tryd.underlying23 rfl S 0 rfl (K.map (Value.int .u8)) HIL.out.1 HRa.out ?_; rw [HAK.out.1])
  | (refine atLoad 26 ?_; refine wpList_ldMid rfl 26 _ _ rfl Tryd.underlying26 rfl (S + 1) 0 rfl (scs s) HIL.out.2 HRb.out ?_; rw [HAK.out.2])
  | (refine atBuild 78 ?_; refine wpList_run rfl _ _ (exec_built 78 [(0, .tmp 31), (1, .tmp 32), (2, .tmp 34), (3, .tmp 36), (4, .tmp 37), (5, .tmp 38), (6, .tmp 39)] rfl [(0, .pointer (some ⟨D, 0, none⟩)), (1, .agg AK), (2, .int .u64 (f : Int)), (3, .int .u64 (n : Int)), (4, .agg (sa s)), (5, .int .u64 nx), (6, .int .u64 lim)] rfl _ HBJ.out) ?_))
 (try simp only [HJ.out])
 have HRc : Box (w2.rangeAt (S + 1) 0 (scs s)) := ⟨(HK1.out w2 (by rw [<- hw2]; exact (Below.refl _ _).alloc (Nat.le_refl _) _)).2⟩
 clear hw2 HRa HRb HK1 HSI HBJ
 go_wp2_with (first
  | (go_at_call 21; refine HMA.out.mono ?_; rintro e x2 ⟨rfl, hb⟩; have H2 : Box (Below w2.heap.size w2 x2) := ⟨hb⟩; clear hb)
  | (refine atLoad 26 ?_; refine wpList_ldMid rfl 26 _ _ rfl Tryd.underlying26 rfl (S + 1) 0 rfl (scs s) HIL.out.2 HRc.out ?_; rw [HAK.out.2]))
 go_ret2
 exact ⟨J, rfl, HC.out.below H2.out, below_to HFI.out.1 H2.out, HFI.out.2⟩
end Go.Proofs.YthfobaeafapbnaaDoor
namespace Go.Proofs.YthfobaeafapbnaaDoor
open Go.RowKit Plain
attribute [local go_sem] Oper.semAt_some
def slt (K : List Int) (p : Int) (v : Int) (r : (Int × List Int) × Bool) : List Int := Seal.sl K p v (putP r)
theorem length_slt (K : List Int) (p v : Int) (r : (Int × List Int) × Bool) : (slt K p v r).length = 192 := Seal.length_sl _ _ _ _
theorem byt_slt (K : List Int) (p v : Int) (r : (Int × List Int) × Bool) : Byt (slt K p v r) := Seal.byt_sl _ _ _ _
theorem JC.next {w0 w : World} {J D : Nat} {fp : Nat -> Prop} {j : Jt} {d : Disk.Dk} (h : JC w0 w J D fp j d) (x : Int) (hx : 1 <= x /\ x <= 18446744073709551615) : JC w0 (w.setCell ⟨J, 69, none⟩ (.int .u64 x)) J D fp { j with nx := x } d := by
 have hb : But J w (w.setCell ⟨J, 69, none⟩ (.int .u64 x)) := (But.refl _ _).setCell 69 _
 refine h.turn hb ?_ ⟨h.ok.key, h.ok.kb, h.ok.lo, h.ok.hi, h.ok.st, h.ok.sl, h.ok.cl, hx, h.ok.lim⟩ rfl rfl
 have := heap_setCell_same w J 69 _ _ (.int .u64 x) h.row
 rw [this, List.setIfInBounds_toArray, jcs, jq_x _ _ _ _ _ _ _ _ h.ok.key h.ok.st]
 rfl
theorem own_bl {w : World} {base n c : Nat} {a : Option Addr} {L : List Int} (h : w.ownsRow base 5 1 (.slice a n c) n (L.map (Value.int .u8))) (hL : Byt L) : Bytes w a n L := own_bytes h hL
def SlV (w0 w : World) (J D : Nat) (fp : Nat -> Prop) (j : Jt) (d : Disk.Dk) (S : List Int) (e : Ending) (w' : World) : Prop :=
 ∃ g, e = .returned (.slice (some ⟨g, 0, none⟩) 192 192) /\ Bytes w' (some ⟨g, 0, none⟩) 192 S /\ w.heap.size <= g /\ JC w0 w' J D fp { j with nx := j.nx + 1 } d /\ Fw (fun k => k = J) w w' fp fp
set_option maxHeartbeats 4000000 in
theorem sealed_v {w0 w : World} {J D : Nat} {fp : Nat -> Prop} {j : Jt} {d : Disk.Dk} (C : JC w0 w J D fp j d) (p : Nat) (hp : p <= 4294967295) (r : Rc) (hB : Bytes w r.m.ba r.m.bl r.m.bs) (hn : N64 r.m.blk) (hl : r.m.bl = 160) (hnx : j.nx < 18446744073709551615) :
  Calls Tryd.prog 39 #[.pointer (some ⟨J, 0, none⟩), .int .u32 (p : Int), .agg (rcc r).toArray] w fun e w' => SlV w0 w J D fp j d (slt j.key (p : Int) j.nx (rpl r)) e w' := by
 obtain ⟨S, hS⟩ : ∃ S, w.heap.size = S := ⟨_, rfl⟩
 obtain ⟨RC, hRC⟩ : ∃ A, (rcc r).toArray = A := ⟨_, rfl⟩
 rw [hRC]
 obtain ⟨w1, hw1⟩ : ∃ w1, w.alloc (.cells RC 101) = w1 := ⟨_, rfl⟩
 have hb1 : Below w.heap.size w w1 := by rw [<- hw1]; exact (Below.refl _ _).alloc (Nat.le_refl _) _
 have h1 : w1.heap[S]? = some (.cells RC 101 (0, 0)) := by rw [<- hw1]; exact al_at hS
 have HR1 : Box (w1.rangeAt S 0 (rcc r)) := ⟨fun i x hx => by rw [cell_of_row _ _ _ _ _ _ h1, Nat.zero_add, <- hRC]; simpa using hx⟩
 have hbs : r.m.bs.length = 160 := by rw [hB.1]; exact hl
 have hpb : Byt (putP (rpl r)) := byt_putP (rpl r) hB.2.1
 have HPU : Box (Calls Tryd.prog 55 #[.agg RC] w1 fun e w' => ∃ a c, e = .returned (.tuple #[.slice a 176 c, .int .i64 0]) /\ Bytes w' a 176 (putP (rpl r)) /\ Below w1.heap.size w1 w') := ⟨by
  have := rcput_ok r w1 (hB.below hb1) hn hl
  rw [hRC] at this
  exact this.mono fun e w' ⟨a, c, h1, h2, h3⟩ => ⟨a, c, h1, own_bl h2 hpb, h3⟩⟩
 have hnx1 := C.ok.nx
 have HSE : Box (∀ (x : World) (a : Option Addr) (c : Nat), Below w1.heap.size w1 x -> Bytes x a 176 (putP (rpl r)) -> Calls Tryd.prog 56 #[.agg (u8s j.key), .int .u32 (p : Int), .int .u64 j.nx, .slice a 176 c] x fun e w' => ∃ g, e = .returned (.tuple #[.slice (some ⟨g, 0, none⟩) 192 192, .int .i64 0]) /\ Bytes w' (some ⟨g, 0, none⟩) 192 (slt j.key (p : Int) j.nx (rpl r)) /\ x.heap.size <= g /\ Below x.heap.size x w') := ⟨fun x a c hx ha => by
  refine (Seal.seal_ok j.key (putP (rpl r)) (p : Int) j.nx a 176 c x (C.tab.below (below_to C.cx.bel (below_to hb1 hx))) C.ok.key C.ok.kb ⟨by omega, by omega⟩ (by omega) (by omega) (by omega) ha (.inr rfl)).mono ?_
  rintro e w' ⟨g, rfl, ho⟩
  refine ⟨g, rfl, ho.bytes (byt_slt _ _ _ _), ?_, ho.2.2⟩
  exact (own_blk ho.2.1 g rfl).1⟩
 have HJ : Box (∀ x, Below w1.heap.size w1 x -> x.rangeAt J 1 (j.key.map (Value.int .u8)) /\ x.cell? ⟨J, 69, none⟩ = some (.int .u64 j.nx)) := ⟨fun x hx => by
  have := C.jrd (below_to hb1 hx)
  exact ⟨this.key, this.nx⟩⟩
 have HFO : Box (∀ x (g : Nat), Below w1.heap.size w1 x -> Bytes x (some ⟨g, 0, none⟩) 192 (slt j.key (p : Int) j.nx (rpl r)) -> w1.heap.size <= g -> x.frozen? ⟨J, 69, none⟩ = false /\ ∀ v : Int, v = j.nx + 1 -> SlV w0 w J D fp j d (slt j.key (p : Int) j.nx (rpl r)) (.returned (.slice (some ⟨g, 0, none⟩) 192 192)) (x.setCell ⟨J, 69, none⟩ (.int .u64 v))) := ⟨fun x g hx hg hgl => by
  have Cx := C.below (below_to hb1 hx)
  refine ⟨frozen_of_row _ _ _ _ _ Cx.row, fun v hv => ?_⟩
  have hbJ : But J x (x.setCell ⟨J, 69, none⟩ (.int .u64 v)) := (But.refl _ _).setCell 69 _
  have hJl := C.lt
  have hsz := hb1.size
  refine ⟨g, rfl, ?_, by omega, ?_, (Fw.below _ fp (below_to hb1 hx)).trans (Fw.of_but (fun k => k = J) rfl hbJ fp)⟩
  ·obtain ⟨q1, q2, q3⟩ := hg
   refine ⟨q1, q2, fun h => ?_⟩
   obtain ⟨b, o, e, hlt, hc⟩ := q3 h
   cases e
   exact ⟨g, 0, rfl, Nat.lt_of_lt_of_le hlt hbJ.size, fun i hi => (World.cell?_of_block (hbJ.block g hlt (by omega))).trans (hc i hi)⟩
  ·rw [hv]
   exact Cx.next _ (by omega)⟩
 have HN : Box (w.heap.size = S) := ⟨hS⟩
 have HIK : Box ((Tryd.prog.info? 23).map (·.size) = some (j.key.map (Value.int .u8)).length /\ (Tryd.prog.info? 101).map (·.size) = some (rcc r).length) := ⟨by rw [List.length_map, C.ok.key]; exact infoSum, infoRc⟩
 have HRC : Box ((rcc r).toArray = RC) := ⟨hRC⟩
 have HW : Box (IntKind.u64.wrap (j.nx + 1) = j.nx + 1) := ⟨by rw [IntKind.wrap_u64]; omega⟩
 have HKU : Box ((j.key.map (Value.int .u8)).toArray = u8s j.key) := ⟨rfl⟩
 obtain ⟨AK, hAK⟩ : ∃ A, u8s j.key = A := ⟨_, rfl⟩
 rw [hAK] at HSE HKU
 generalize slt j.key (p : Int) j.nx (rpl r) = SS at *
 generalize putP (rpl r) = PP at *
 clear C hB hn hl hbs hpb hb1 h1 hS hRC hAK
 go_enter Tryd.func39, Tryd.ntmps39
 go_upto_region 1 with fail
 (try simp only [HN.out])
 clear hw1
 go_upto_region 2 with (first
  | (refine atLoad 101 ?_; refine wpList_ldMid rfl 101 _ _ rfl Tryd.underlying101 rfl S 0 rfl (rcc r) HIK.out.2 HR1.out ?_; rw [HRC.out])
  | (go_at_call 55; refine HPU.out.mono ?_; rintro e x1 ⟨a1, c1, rfl, h1, h2⟩; have H1 : Box (Below w1.heap.size w1 x1 /\ Bytes x1 a1 176 PP) := ⟨h2, h1⟩; clear h1 h2))
 refine begin_keep (S := fun x => x.rangeAt J 1 (j.key.map (Value.int .u8)) /\ x.cell? ⟨J, 69, none⟩ = some (.int .u64 j.nx)) (by kernel_rfl) (fun wd hwd => ?_)
 have hbd : Below x1.heap.size x1 wd := by rw [hwd]; exact (Below.refl _ _).drew
 clear hwd
 have hb1d := below_to H1.out.1 hbd
 have hS := HJ.out wd hb1d
 refine take_x (i := 0) (v := ?_) rfl ?_ hS ?_
 rotate_left
 ·rintro w' -; go_simp <;> with_reducible rfl
 try simp only [Act.put, pC, pD, pE, pF, pG]
 refine take_x (i := 1) (v := ?_) rfl ?_ hS ?_
 rotate_left
 ·rintro w' -; go_simp <;> with_reducible rfl
 try simp only [Act.put, pC, pD, pE, pF, pG, pH]
 refine take_x (i := 2) (v := ?_) rfl ?_ hS ?_
 rotate_left
 ·rintro w' -; go_simp <;> with_reducible rfl
 try simp only [Act.put, pC, pD, pE, pF, pG, pH]
 refine take_x (i := 3) (v := .agg AK) rfl (fun w' hLat => by rw [<- HKU.out]; exact exec_load_mid 23 _ _ rfl Tryd.underlying23 rfl J 1 rfl (j.key.map (Value.int .u8)) HIK.out.1 hLat.1) hS ?_
 try simp only [Act.put, pC, pD, pE, pF, pG, pH]
 refine take_x (i := 4) (v := ?_) rfl ?_ hS ?_
 rotate_left
 ·rintro w' -; go_simp <;> with_reducible rfl
 try simp only [Act.put, pC, pD, pE, pF, pG, pH]
 refine take_x (i := 5) (v := ?_) rfl ?_ hS ?_
 rotate_left
 ·rintro w' -; go_simp <;> with_reducible rfl
 try simp only [Act.put, pC, pD, pE, pF, pG, pH]
 refine take_x (i := 6) (v := ?_) rfl ?_ hS ?_
 rotate_left
 ·rintro w' -; go_simp <;> with_reducible rfl
 try simp only [Act.put, pC, pD, pE, pF, pG, pH]
 refine take_x (i := 7) (v := ?_) rfl ?_ hS ?_
 rotate_left
 ·rintro w' -; go_simp <;> with_reducible rfl
 try simp only [Act.put, pC, pD, pE, pF, pG, pH]
 refine take_x (i := 8) (v := .int .u64 j.nx) rfl (fun w' hLat => exec_load1 24 _ _ rfl Tryd.underlying24 rfl _ rfl _ hLat.2) hS ?_
 try simp only [Act.put, pC, pD, pE, pF, pG, pH]
 refine take_x (i := 9) (v := ?_) rfl ?_ hS ?_
 rotate_left
 ·rintro w' -; go_simp <;> with_reducible rfl
 try simp only [Act.put, pC, pD, pE, pF, pG, pH]
 refine one_keep (i := 10) (by kernel_rfl) ?_
 refine keep_step rfl (by rfl) ?_
 go_simp
 refine Calls.mono (HSE.out wd a1 c1 hb1d (H1.out.2.below hbd)) ?_
 rintro e x2 ⟨g, rfl, hg1, hg2, hb2⟩
 have H2 : Box (Below w1.heap.size w1 x2 /\ Bytes x2 (some ⟨g, 0, none⟩) 192 SS /\ w1.heap.size <= g) := ⟨below_to hb1d hb2, hg1, Nat.le_trans hb1d.size hg2⟩
 clear hg1 hg2 hb2
 have hS := HJ.out x2 H2.out.1
 refine ⟨hS, ?_⟩
 try simp only [Act.put, pC, pD, pE, pF, pG, pH]
 refine take_x (i := 11) (v := ?_) rfl ?_ hS ?_
 rotate_left
 ·rintro w' -; go_simp <;> with_reducible rfl
 try simp only [Act.put, pC, pD, pE, pF, pG, pH]
 refine take_x (i := 12) (v := ?_) rfl ?_ hS ?_
 rotate_left
 ·rintro w' -; go_simp <;> with_reducible rfl
 try simp only [Act.put, pC, pD, pE, pF, pG, pH]
 refine take_x (i := 13) (v := ?_) rfl ?_ hS ?_
 rotate_left
 ·rintro w' -; go_simp <;> with_reducible rfl
 try simp only [Act.put, pC, pD, pE, pF, pG, pH]
 refine take_x (i := 14) (v := ?_) rfl ?_ hS ?_
 rotate_left
 ·rintro w' -; go_simp <;> with_reducible rfl
 try simp only [Act.put, pC, pD, pE, pF, pG, pH]
 refine take_x (i := 15) (v := ?_) rfl ?_ hS ?_
 rotate_left
 ·rintro w' -; go_simp <;> with_reducible rfl
 try simp only [Act.put, pC, pD, pE, pF, pG, pH]
 refine wpAnyH_done (by kernel_rfl) ?_ _
 clear hbd hb1d
 obtain ⟨hfz, hfo⟩ := HFO.out x2 g H2.out.1 H2.out.2.1 H2.out.2.2
 have cnx := hS.2
 have HFF : Box _ := ⟨hfo⟩
 have hww := HW.out
 clear hfo hS HFO HSE HPU HJ
 go_wp2
 go_ret
 exact HFF.out _ rfl
end Go.Proofs.YthfobaeafapbnaaDoor
