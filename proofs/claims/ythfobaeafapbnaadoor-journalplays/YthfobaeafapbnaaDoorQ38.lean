/-
 journal.New and the reference's New where they refuse; the reference's Adopt, of any state and limit, and its Empty.
-/
import Derived.Test.YthfobaeafapbnaaDoorQ37
set_option linter.unusedVariables false
set_option maxRecDepth 100000
namespace Go.Proofs.YthfobaeafapbnaaDoor
open Go.RowKit Plain
attribute [local go_sem] Oper.semAt_some
theorem jnew_rng {w0 w : World} {D : Nat} {fp : Nat -> Prop} {d : Disk.Dk} (C : Disk.Cx w0 w D fp d) (K : List Int) (f n : Int) (hf : f <= 9223372036854775807) (hdn : d.n <= 4096) (hb : f < 0 ∨ 0 <= f /\ n < 1 ∨ 0 <= f /\ 1 <= n /\ (d.n : Int) - f < n) (s : Jst) (nx lim : Int) :
  Calls Tryd.prog 7 #[.pointer (some ⟨D, 0, none⟩), .agg (u8s K), .int .i64 f, .int .i64 n, .agg (sa s), .int .u64 nx, .int .u64 lim] w fun e w' => e = .returned (.tuple #[.pointer none, .int .i64 1]) /\ Below w.heap.size w w' := by
 obtain ⟨S, hS⟩ : ∃ S, w.heap.size = S := ⟨_, rfl⟩
 obtain ⟨AK, hAK⟩ : ∃ A, u8s K = A := ⟨_, rfl⟩
 obtain ⟨AS, hAS⟩ : ∃ A, sa s = A := ⟨_, rfl⟩
 obtain ⟨w1, hw1⟩ : ∃ w1, (w.alloc (.cells AK 23)).alloc (.cells AS 26) = w1 := ⟨_, rfl⟩
 have hb1 : Below w.heap.size w w1 := by rw [<- hw1]; exact ((Below.refl _ _).alloc (Nat.le_refl _) _).alloc (by simp) _
 have HSI : Box (Calls Tryd.prog 20 #[.pointer (some ⟨D, 0, none⟩)] w1 fun e w' => e = .returned (.int .i64 (d.n : Int)) /\ w1 = w') := ⟨Disk.size_cx (C.step hb1)⟩
 have HFI : Box (Below w.heap.size w w1) := ⟨hb1⟩
 obtain ⟨dn, hd⟩ : ∃ x, d.n = x := ⟨_, rfl⟩
 rw [hd] at HSI hdn hb
 rw [hAK, hAS]
 clear C hb1 hAK hAS hd
 go_enter Tryd.func7, Tryd.ntmps7
 go_upto_region 1 with fail
 (try simp only [hw1])
 clear hw1 hS
 rcases hb with h1 | ⟨h0, h1⟩ | ⟨h0, h1, h2⟩
 ·have g1 : decide (f < 0) = true := by simp; omega
  go_wp2_with (go_at_call 20; refine HSI.out.mono ?_; rintro e x1 ⟨rfl, rfl⟩)
  go_ret2
  exact ⟨rfl, HFI.out⟩
 ·have g0 : ¬ f < 0 := by omega
  have g1 : decide (f < 0) = false := by simp; omega
  have g2 : decide (n < 1) = true := by simp; omega
  go_wp2_with (go_at_call 20; refine HSI.out.mono ?_; rintro e x1 ⟨rfl, rfl⟩)
  go_ret2
  exact ⟨rfl, HFI.out⟩
 ·have g0 : ¬ f < 0 := by omega
  have g1 : decide (f < 0) = false := by simp; omega
  have g2 : decide (n < 1) = false := by simp; omega
  have g3 : ¬ n < 1 := by omega
  have hwr : IntKind.i64.wrap ((dn : Int) - f) = (dn : Int) - f := by rw [IntKind.wrap_i64]; omega
  have g4 : decide ((dn : Int) - f < n) = true := by simp; omega
  go_wp2_with (go_at_call 20; refine HSI.out.mono ?_; rintro e x1 ⟨rfl, rfl⟩)
  go_ret2
  exact ⟨rfl, HFI.out⟩
theorem jnew_bad {w0 w : World} {D : Nat} {fp : Nat -> Prop} {d : Disk.Dk} (C : Disk.Cx w0 w D fp d) (K : List Int) (hK : K.length = 32 /\ Byt K) (f n : Nat) (h1 : 1 <= n) (hfit : f + n <= d.n) (hdn : d.n <= 4096) (s : Jst) (hs : OkS s) (nx lim : Int) (hm : may n s = false ∨ may n s = true /\ nx = 0 ∨ may n s = true /\ nx ≠ 0 /\ 9223372036854775807 < lim) :
  Calls Tryd.prog 7 #[.pointer (some ⟨D, 0, none⟩), .agg (u8s K), .int .i64 (f : Int), .int .i64 (n : Int), .agg (sa s), .int .u64 nx, .int .u64 lim] w fun e w' => e = .returned (.tuple #[.pointer none, .int .i64 1]) /\ Below w.heap.size w w' := by
 obtain ⟨S, hS⟩ : ∃ S, w.heap.size = S := ⟨_, rfl⟩
 obtain ⟨AK, hAK⟩ : ∃ A, u8s K = A := ⟨_, rfl⟩
 obtain ⟨w1, hw1⟩ : ∃ w1, (w.alloc (.cells AK 23)).alloc (.cells (sa s) 26) = w1 := ⟨_, rfl⟩
 have hb1 : Below w.heap.size w w1 := by rw [<- hw1]; exact ((Below.refl _ _).alloc (Nat.le_refl _) _).alloc (by simp) _
 have k1 : w1.heap[S]? = some (.cells AK 23 (0, 0)) := by rw [<- hw1]; exact al_old (al_at hS)
 have k2 : w1.heap[S + 1]? = some (.cells (sa s) 26 (0, 0)) := by rw [<- hw1]; exact al_at (by simp [hS])
 have HSI : Box (Calls Tryd.prog 20 #[.pointer (some ⟨D, 0, none⟩)] w1 fun e w' => e = .returned (.int .i64 (d.n : Int)) /\ w1 = w') := ⟨Disk.size_cx (C.step hb1)⟩
 obtain ⟨J, hJ⟩ : ∃ J, w1.heap.size = J := ⟨_, rfl⟩
 obtain ⟨w2, hw2⟩ : ∃ w2, w1.alloc (.cells (jq (.pointer (some ⟨D, 0, none⟩)) K (f : Int) (n : Int) s nx lim).toArray 78) = w2 := ⟨_, rfl⟩
 have hb2 : Below w1.heap.size w1 w2 := by rw [<- hw2]; exact (Below.refl _ _).alloc (Nat.le_refl _) _
 have r2 : w2.heap[J]? = some (.cells (jcs D ⟨K, f, n, s, nx, lim⟩).toArray 78 (0, 0)) := by rw [<- hw2]; exact al_at hJ
 have HMA : Box (Calls Tryd.prog 21 #[.pointer (some ⟨J, 0, none⟩), .agg (sa s)] w2 fun e w' => e = .returned (.bool (may n s)) /\ Below w2.heap.size w2 w') := ⟨by have := mayBe_any (jrd_of r2 hK.1 hs) s (Array.getElem?_eq_some_iff.1 r2).1; exact this⟩
 have HK1 : Box (∀ x, Below w1.heap.size w1 x -> x.rangeAt S 0 (K.map (Value.int .u8)) /\ x.rangeAt (S + 1) 0 (scs s)) := ⟨fun x hx => ⟨fun i v hv => by
  rw [cell_of_row _ _ _ _ _ _ ((hx.block S (Array.getElem?_eq_some_iff.1 k1).1).trans k1), Nat.zero_add, <- hAK]
  simpa [u8s] using hv, range_sa ((hx.block (S + 1) (Array.getElem?_eq_some_iff.1 k2).1).trans k2)⟩⟩
 have HIL : Box ((Tryd.prog.info? 23).map (·.size) = some (K.map (Value.int .u8)).length /\ (Tryd.prog.info? 26).map (·.size) = some (scs s).length) := ⟨by rw [List.length_map, hK.1]; exact infoSum, by rw [len_scs hs]; exact infoSt⟩
 have HBJ : Box (Tryd.prog.built 78 [(0, .pointer (some ⟨D, 0, none⟩)), (1, .agg AK), (2, .int .u64 (f : Int)), (3, .int .u64 (n : Int)), (4, .agg (sa s)), (5, .int .u64 nx), (6, .int .u64 lim)] = some (jq (.pointer (some ⟨D, 0, none⟩)) K (f : Int) (n : Int) s nx lim).toArray) := ⟨by rw [<- hAK]; exact built_J _ rfl K _ _ s nx lim hK.1 hs⟩
 have HAK : Box ((K.map (Value.int .u8)).toArray = AK /\ (scs s).toArray = sa s) := ⟨by rw [<- hAK]; rfl, rfl⟩
 have HFI : Box (Below w.heap.size w w2) := ⟨below_to hb1 hb2⟩
 obtain ⟨r, hr⟩ : ∃ r, d.n - f = r := ⟨_, rfl⟩
 have hwr : IntKind.i64.wrap ((d.n : Int) - (f : Int)) = (r : Int) := by rw [IntKind.wrap_i64]; omega
 have g1 : ¬ (f : Int) < 0 := by omega
 have g2 : ¬ (n : Int) < 1 := by omega
 have g3 : decide (r < n) = false := by simp; omega
 have hwf : IntKind.u64.wrap (f : Int) = (f : Int) := by rw [IntKind.wrap_u64]; omega
 have hwn : IntKind.u64.wrap (n : Int) = (n : Int) := by rw [IntKind.wrap_u64]; omega
 have hs2 : (w.alloc (.cells AK 23)).heap.size = S + 1 := by simp [hS]
 rw [hAK]
 have HJ : Box (w1.heap.size = J) := ⟨hJ⟩
 clear C hK h1 hfit hdn hs k1 k2 hb1 hb2 r2 hAK hr hJ
 go_enter Tryd.func7, Tryd.ntmps7
 go_upto_region 1 with fail
 (try rw [hs2])
 (try simp only [hS, hw1])
 clear hs2 hw1 hS
 have HR1 := HK1.out w1 (Below.refl _ _)
 have HRa : Box (w1.rangeAt S 0 (K.map (Value.int .u8))) := ⟨HR1.1⟩
 have HRb : Box (w1.rangeAt (S + 1) 0 (scs s)) := ⟨HR1.2⟩
 clear HR1
 go_upto_region 4 with (first
  | (go_at_call 20; refine HSI.out.mono ?_; rintro e x1 ⟨rfl, rfl⟩)
  | (refine atLoad 23 ?_; refine wpList_ldMid rfl 23 _ _ rfl Tryd.underlying23 rfl S 0 rfl (K.map (Value.int .u8)) HIL.out.1 HRa.out ?_; rw [HAK.out.1])
  | (refine atLoad 26 ?_; refine wpList_ldMid rfl 26 _ _ rfl Tryd.underlying26 rfl (S + 1) 0 rfl (scs s) HIL.out.2 HRb.out ?_; rw [HAK.out.2])
  | (refine atBuild 78 ?_; refine wpList_run rfl _ _ (exec_built 78 [(0, .tmp 31), (1, .tmp 32), (2, .tmp 34), (3, .tmp 36), (4, .tmp 37), (5, .tmp 38), (6, .tmp 39)] rfl [(0, .pointer (some ⟨D, 0, none⟩)), (1, .agg AK), (2, .int .u64 (f : Int)), (3, .int .u64 (n : Int)), (4, .agg (sa s)), (5, .int .u64 nx), (6, .int .u64 lim)] rfl _ HBJ.out) ?_))
 (try simp only [HJ.out])
 have HRc : Box (w2.rangeAt (S + 1) 0 (scs s)) := ⟨(HK1.out w2 (by rw [<- hw2]; exact (Below.refl _ _).alloc (Nat.le_refl _) _)).2⟩
 clear hw2 HRa HRb HK1 HSI HBJ
 obtain ⟨mb, hmb⟩ : ∃ b, may n s = b := ⟨_, rfl⟩
 rw [hmb] at HMA hm
 clear hmb
 rcases hm with rfl | ⟨rfl, rfl⟩ | ⟨rfl, hx, hl⟩
 ·go_wp2_with (first
   | (go_at_call 21; refine HMA.out.mono ?_; rintro e x2 ⟨rfl, hb⟩; have H2 : Box (Below w2.heap.size w2 x2) := ⟨hb⟩; clear hb)
   | (refine atLoad 26 ?_; refine wpList_ldMid rfl 26 _ _ rfl Tryd.underlying26 rfl (S + 1) 0 rfl (scs s) HIL.out.2 HRc.out ?_; rw [HAK.out.2]))
  go_ret2
  exact ⟨rfl, below_to HFI.out H2.out⟩
 ·go_wp2_with (first
   | (go_at_call 21; refine HMA.out.mono ?_; rintro e x2 ⟨rfl, hb⟩; have H2 : Box (Below w2.heap.size w2 x2) := ⟨hb⟩; clear hb)
   | (refine atLoad 26 ?_; refine wpList_ldMid rfl 26 _ _ rfl Tryd.underlying26 rfl (S + 1) 0 rfl (scs s) HIL.out.2 HRc.out ?_; rw [HAK.out.2]))
  go_ret2
  exact ⟨rfl, below_to HFI.out H2.out⟩
 ·have e1 : (nx == 0) = false := by simpa using hx
  have e2 : decide (9223372036854775807 < lim) = true := by simpa using hl
  go_wp2_with (first
   | (go_at_call 21; refine HMA.out.mono ?_; rintro e x2 ⟨rfl, hb⟩; have H2 : Box (Below w2.heap.size w2 x2) := ⟨hb⟩; clear hb)
   | (refine atLoad 26 ?_; refine wpList_ldMid rfl 26 _ _ rfl Tryd.underlying26 rfl (S + 1) 0 rfl (scs s) HIL.out.2 HRc.out ?_; rw [HAK.out.2]))
  go_ret2
  exact ⟨rfl, below_to HFI.out H2.out⟩
set_option maxHeartbeats 2000000 in
theorem rnew13_bad (P f n : Nat) (h1 : 1 <= n) (hfit : f + n <= P) (hP : P <= 4096) (K : List Int) (hK : K.length = 32) (s : Jst) (hs : OkS s) (nx lim : Int) (hm : n <= s.start ∨ s.start < n /\ n < s.count ∨ s.start < n /\ s.count <= n /\ nx = 0 ∨ s.start < n /\ s.count <= n /\ nx ≠ 0 /\ 9223372036854775807 < lim) (w : World) :
  Calls Tryd.prog 8 #[.int .i64 (P : Int), .agg (u8s K), .int .i64 (f : Int), .int .i64 (n : Int), .agg (sa s), .int .u64 nx, .int .u64 lim] w fun e w' => e = .returned (.tuple #[.agg (rq z32 0 0 zs 0 0).toArray, .int .i64 1]) /\ Below w.heap.size w w' := by
 obtain ⟨S, hS⟩ : ∃ S, w.heap.size = S := ⟨_, rfl⟩
 obtain ⟨AK, hAK⟩ : ∃ A, u8s K = A := ⟨_, rfl⟩
 obtain ⟨AZ, hAZ⟩ : ∃ A, (rq z32 0 0 zs 0 0).toArray = A := ⟨_, rfl⟩
 obtain ⟨w1, hw1⟩ : ∃ w1, ((w.alloc (.cells AK 23)).alloc (.cells (sa s) 42)).alloc (.cells AZ 44) = w1 := ⟨_, rfl⟩
 have hs1 : (w.alloc (.cells AK 23)).heap.size = S + 1 := by simp [hS]
 have hs2 : ((w.alloc (.cells AK 23)).alloc (.cells (sa s) 42)).heap.size = S + 2 := by simp [hS]
 have hb1 : Below w.heap.size w w1 := by rw [<- hw1]; exact (((Below.refl _ _).alloc (Nat.le_refl _) _).alloc (by simp) _).alloc (by simp; omega) _
 have k2 : w1.heap[S + 1]? = some (.cells (sa s) 42 (0, 0)) := by rw [<- hw1]; exact al_old (al_at hs1)
 have k3 : w1.heap[S + 2]? = some (.cells AZ 44 (0, 0)) := by rw [<- hw1]; exact al_at hs2
 have HZ : Box ((Tryd.prog.info? 44).map (·.zero) = some (some (.agg AZ))) := ⟨hAZ ▸ zeroRj⟩
 have HX : Box (w1.heap[S + 2]? = some (.cells AZ 44 (0, 0))) := ⟨k3⟩
 have c0 : w1.cell? ⟨S + 1, 0, none⟩ = some (.int .u64 (s.start : Int)) := by rw [cell_of_row _ _ _ _ _ _ k2]; rfl
 have c1 : w1.cell? ⟨S + 1, 1, none⟩ = some (.int .u64 (s.count : Int)) := by rw [cell_of_row _ _ _ _ _ _ k2]; rfl
 have hlz : (rq z32 0 0 zs 0 0).length = 70 := len_rq _ _ _ _ _ _ len_z32 okS_zs
 have HIL : Box ((Tryd.prog.info? 44).map (·.size) = some AZ.size /\ AZ.all (·.oneCell') = true) := ⟨by rw [<- hAZ, List.size_toArray, hlz]; exact infoRj, by rw [<- hAZ]; exact all_rq _ _ _ _ _ _⟩
 have HBJ : Box (Tryd.prog.built 44 [] = some AZ) := ⟨by rw [<- hAZ, builtRj]; rfl⟩
 have HB : Box (Below w.heap.size w w1 /\ w.heap.size = S) := ⟨hb1, hS⟩
 obtain ⟨r, hr⟩ : ∃ r, P - f = r := ⟨_, rfl⟩
 have hwr : IntKind.i64.wrap ((P : Int) - (f : Int)) = (r : Int) := by rw [IntKind.wrap_i64]; omega
 have hwn : IntKind.u64.wrap (n : Int) = (n : Int) := by rw [IntKind.wrap_u64]; omega
 have g1 : ¬ (f : Int) < 0 := by omega
 have g2 : ¬ (n : Int) < 1 := by omega
 have g3 : decide (P < f) = false := by simp; omega
 have g4 : decide (r < n) = false := by simp; omega
 rw [hAK, hAZ]
 clear hK h1 hfit hP hs k2 k3 hb1 hAK hr hAZ hlz
 go_enter Tryd.func8, Tryd.ntmps8
 go_upto_region 1 with (refine atAlloc _ ?_; refine wpList_run rfl _ _ (exec_alloc 44 rfl _ HZ.out) ?_)
 (try rw [hs2])
 (try rw [hs1])
 (try simp only [hS, hw1])
 clear hs1 hs2 hw1 hS
 rcases hm with g5 | ⟨g5, g6⟩ | ⟨g5, g6, rfl⟩ | ⟨g5, g6, g7, g8⟩
 ·have e5 : decide (n <= s.start) = true := by simpa using g5
  go_wp2_with (first
   | (refine atBuild 44 ?_; refine wpList_run rfl _ _ (exec_built 44 [] rfl [] rfl AZ HBJ.out) ?_)
   | (refine atStore _ ?_; refine wpList_store_row rfl 44 _ _ rfl (S + 2) AZ rfl rfl 44 AZ HX.out HIL.out.1 rfl HIL.out.2 ?_))
  refine bodyPost_ret (results_row2 (t := 14) (u := 15) rfl _ Tryd.underlying44 rfl _ _ (S + 2) AZ HIL.out.1 rfl (setRow_heap _ _ _ _ _ _ HX.out)) rfl ?_
  exact ⟨rfl, below_but HB.out.1 (but_setRow _ _ _) (by have := HB.out.2; omega) HB.out.1.size⟩
 ·have e5 : decide (n <= s.start) = false := by simpa using g5
  have e6 : decide (n < s.count) = true := by simpa using g6
  go_wp2_with (first
   | (refine atBuild 44 ?_; refine wpList_run rfl _ _ (exec_built 44 [] rfl [] rfl AZ HBJ.out) ?_)
   | (refine atStore _ ?_; refine wpList_store_row rfl 44 _ _ rfl (S + 2) AZ rfl rfl 44 AZ HX.out HIL.out.1 rfl HIL.out.2 ?_))
  refine bodyPost_ret (results_row2 (t := 14) (u := 15) rfl _ Tryd.underlying44 rfl _ _ (S + 2) AZ HIL.out.1 rfl (setRow_heap _ _ _ _ _ _ HX.out)) rfl ?_
  exact ⟨rfl, below_but HB.out.1 (but_setRow _ _ _) (by have := HB.out.2; omega) HB.out.1.size⟩
 ·have e5 : decide (n <= s.start) = false := by simpa using g5
  have e6 : decide (n < s.count) = false := by simpa using g6
  go_wp2_with (first
   | (refine atBuild 44 ?_; refine wpList_run rfl _ _ (exec_built 44 [] rfl [] rfl AZ HBJ.out) ?_)
   | (refine atStore _ ?_; refine wpList_store_row rfl 44 _ _ rfl (S + 2) AZ rfl rfl 44 AZ HX.out HIL.out.1 rfl HIL.out.2 ?_))
  refine bodyPost_ret (results_row2 (t := 14) (u := 15) rfl _ Tryd.underlying44 rfl _ _ (S + 2) AZ HIL.out.1 rfl (setRow_heap _ _ _ _ _ _ HX.out)) rfl ?_
  exact ⟨rfl, below_but HB.out.1 (but_setRow _ _ _) (by have := HB.out.2; omega) HB.out.1.size⟩
 ·have e5 : decide (n <= s.start) = false := by simpa using g5
  have e6 : decide (n < s.count) = false := by simpa using g6
  have e7 : (nx == 0) = false := by simpa using g7
  have e8 : decide (9223372036854775807 < lim) = true := by simpa using g8
  go_wp2_with (first
   | (refine atBuild 44 ?_; refine wpList_run rfl _ _ (exec_built 44 [] rfl [] rfl AZ HBJ.out) ?_)
   | (refine atStore _ ?_; refine wpList_store_row rfl 44 _ _ rfl (S + 2) AZ rfl rfl 44 AZ HX.out HIL.out.1 rfl HIL.out.2 ?_))
  refine bodyPost_ret (results_row2 (t := 14) (u := 15) rfl _ Tryd.underlying44 rfl _ _ (S + 2) AZ HIL.out.1 rfl (setRow_heap _ _ _ _ _ _ HX.out)) rfl ?_
  exact ⟨rfl, below_but HB.out.1 (but_setRow _ _ _) (by have := HB.out.2; omega) HB.out.1.size⟩
set_option maxHeartbeats 2000000 in
theorem rnew13_rng (P : Nat) (hP : P <= 4096) (f n : Int) (hf : f <= 9223372036854775807) (hb : f < 0 ∨ 0 <= f /\ n < 1 ∨ 0 <= f /\ 1 <= n /\ (P : Int) < f ∨ 0 <= f /\ 1 <= n /\ f <= (P : Int) /\ (P : Int) - f < n) (K : List Int) (hK : K.length = 32) (s : Jst) (hs : OkS s) (nx lim : Int) (w : World) :
  Calls Tryd.prog 8 #[.int .i64 (P : Int), .agg (u8s K), .int .i64 f, .int .i64 n, .agg (sa s), .int .u64 nx, .int .u64 lim] w fun e w' => e = .returned (.tuple #[.agg (rq z32 0 0 zs 0 0).toArray, .int .i64 1]) /\ Below w.heap.size w w' := by
 obtain ⟨S, hS⟩ : ∃ S, w.heap.size = S := ⟨_, rfl⟩
 obtain ⟨AK, hAK⟩ : ∃ A, u8s K = A := ⟨_, rfl⟩
 obtain ⟨AZ, hAZ⟩ : ∃ A, (rq z32 0 0 zs 0 0).toArray = A := ⟨_, rfl⟩
 obtain ⟨w1, hw1⟩ : ∃ w1, ((w.alloc (.cells AK 23)).alloc (.cells (sa s) 42)).alloc (.cells AZ 44) = w1 := ⟨_, rfl⟩
 have hs1 : (w.alloc (.cells AK 23)).heap.size = S + 1 := by simp [hS]
 have hs2 : ((w.alloc (.cells AK 23)).alloc (.cells (sa s) 42)).heap.size = S + 2 := by simp [hS]
 have hb1 : Below w.heap.size w w1 := by rw [<- hw1]; exact (((Below.refl _ _).alloc (Nat.le_refl _) _).alloc (by simp) _).alloc (by simp; omega) _
 have k2 : w1.heap[S + 1]? = some (.cells (sa s) 42 (0, 0)) := by rw [<- hw1]; exact al_old (al_at hs1)
 have k3 : w1.heap[S + 2]? = some (.cells AZ 44 (0, 0)) := by rw [<- hw1]; exact al_at hs2
 have HZ : Box ((Tryd.prog.info? 44).map (·.zero) = some (some (.agg AZ))) := ⟨hAZ ▸ zeroRj⟩
 have HX : Box (w1.heap[S + 2]? = some (.cells AZ 44 (0, 0))) := ⟨k3⟩
 have c0 : w1.cell? ⟨S + 1, 0, none⟩ = some (.int .u64 (s.start : Int)) := by rw [cell_of_row _ _ _ _ _ _ k2]; rfl
 have c1 : w1.cell? ⟨S + 1, 1, none⟩ = some (.int .u64 (s.count : Int)) := by rw [cell_of_row _ _ _ _ _ _ k2]; rfl
 have hlz : (rq z32 0 0 zs 0 0).length = 70 := len_rq _ _ _ _ _ _ len_z32 okS_zs
 have HIL : Box ((Tryd.prog.info? 44).map (·.size) = some AZ.size /\ AZ.all (·.oneCell') = true) := ⟨by rw [<- hAZ, List.size_toArray, hlz]; exact infoRj, by rw [<- hAZ]; exact all_rq _ _ _ _ _ _⟩
 have HBJ : Box (Tryd.prog.built 44 [] = some AZ) := ⟨by rw [<- hAZ, builtRj]; rfl⟩
 have HB : Box (Below w.heap.size w w1 /\ w.heap.size = S) := ⟨hb1, hS⟩
 rw [hAK, hAZ]
 clear hK hs k2 k3 hb1 hAK hAZ hlz
 go_enter Tryd.func8, Tryd.ntmps8
 go_upto_region 1 with (refine atAlloc _ ?_; refine wpList_run rfl _ _ (exec_alloc 44 rfl _ HZ.out) ?_)
 (try rw [hs2])
 (try rw [hs1])
 (try simp only [hS, hw1])
 clear hs1 hs2 hw1 hS
 rcases hb with h1 | ⟨h0, h1⟩ | ⟨h0, h1, h2⟩ | ⟨h0, h1, h2, h3⟩
 ·have e1 : decide (f < 0) = true := by simpa using h1
  go_wp2_with (first
   | (refine atBuild 44 ?_; refine wpList_run rfl _ _ (exec_built 44 [] rfl [] rfl AZ HBJ.out) ?_)
   | (refine atStore _ ?_; refine wpList_store_row rfl 44 _ _ rfl (S + 2) AZ rfl rfl 44 AZ HX.out HIL.out.1 rfl HIL.out.2 ?_))
  refine bodyPost_ret (results_row2 (t := 14) (u := 15) rfl _ Tryd.underlying44 rfl _ _ (S + 2) AZ HIL.out.1 rfl (setRow_heap _ _ _ _ _ _ HX.out)) rfl ?_
  exact ⟨rfl, below_but HB.out.1 (but_setRow _ _ _) (by have := HB.out.2; omega) HB.out.1.size⟩
 ·have e1 : decide (f < 0) = false := by simpa using h0
  have e1b : ¬ f < 0 := by omega
  have e2 : decide (n < 1) = true := by simpa using h1
  go_wp2_with (first
   | (refine atBuild 44 ?_; refine wpList_run rfl _ _ (exec_built 44 [] rfl [] rfl AZ HBJ.out) ?_)
   | (refine atStore _ ?_; refine wpList_store_row rfl 44 _ _ rfl (S + 2) AZ rfl rfl 44 AZ HX.out HIL.out.1 rfl HIL.out.2 ?_))
  refine bodyPost_ret (results_row2 (t := 14) (u := 15) rfl _ Tryd.underlying44 rfl _ _ (S + 2) AZ HIL.out.1 rfl (setRow_heap _ _ _ _ _ _ HX.out)) rfl ?_
  exact ⟨rfl, below_but HB.out.1 (but_setRow _ _ _) (by have := HB.out.2; omega) HB.out.1.size⟩
 ·have e1 : decide (f < 0) = false := by simpa using h0
  have e1b : ¬ f < 0 := by omega
  have e2 : decide (n < 1) = false := by simpa using h1
  have e2b : ¬ n < 1 := by omega
  have e3 : decide ((P : Int) < f) = true := by simpa using h2
  go_wp2_with (first
   | (refine atBuild 44 ?_; refine wpList_run rfl _ _ (exec_built 44 [] rfl [] rfl AZ HBJ.out) ?_)
   | (refine atStore _ ?_; refine wpList_store_row rfl 44 _ _ rfl (S + 2) AZ rfl rfl 44 AZ HX.out HIL.out.1 rfl HIL.out.2 ?_))
  refine bodyPost_ret (results_row2 (t := 14) (u := 15) rfl _ Tryd.underlying44 rfl _ _ (S + 2) AZ HIL.out.1 rfl (setRow_heap _ _ _ _ _ _ HX.out)) rfl ?_
  exact ⟨rfl, below_but HB.out.1 (but_setRow _ _ _) (by have := HB.out.2; omega) HB.out.1.size⟩
 ·have e1 : decide (f < 0) = false := by simpa using h0
  have e1b : ¬ f < 0 := by omega
  have e2 : decide (n < 1) = false := by simpa using h1
  have e2b : ¬ n < 1 := by omega
  have e3 : decide ((P : Int) < f) = false := by simpa using h2
  have e3b : ¬ (P : Int) < f := by omega
  have hwr : IntKind.i64.wrap ((P : Int) - f) = (P : Int) - f := by rw [IntKind.wrap_i64]; omega
  have e4 : decide ((P : Int) - f < n) = true := by simpa using h3
  go_wp2_with (first
   | (refine atBuild 44 ?_; refine wpList_run rfl _ _ (exec_built 44 [] rfl [] rfl AZ HBJ.out) ?_)
   | (refine atStore _ ?_; refine wpList_store_row rfl 44 _ _ rfl (S + 2) AZ rfl rfl 44 AZ HX.out HIL.out.1 rfl HIL.out.2 ?_))
  refine bodyPost_ret (results_row2 (t := 14) (u := 15) rfl _ Tryd.underlying44 rfl _ _ (S + 2) AZ HIL.out.1 rfl (setRow_heap _ _ _ _ _ _ HX.out)) rfl ?_
  exact ⟨rfl, below_but HB.out.1 (but_setRow _ _ _) (by have := HB.out.2; omega) HB.out.1.size⟩
theorem radopt_ok (K : List Int) (hK : K.length = 32) (f n : Nat) (s0 s : Jst) (h0 : OkS s0) (hs : OkS s) (h1 : s.start < n) (h2 : s.count <= n) (nx y lim : Int) (hl : 0 <= lim /\ lim <= 9223372036854775807) (w : World) :
  Calls Tryd.prog 25 #[.agg (rq K (f : Int) (n : Int) s0 nx y).toArray, .agg (sa s), .int .u64 lim] w fun e w' => e = .returned (.agg (rq K (f : Int) (n : Int) s nx lim).toArray) /\ Below w.heap.size w w' := by
 obtain ⟨S, hS⟩ : ∃ S, w.heap.size = S := ⟨_, rfl⟩
 obtain ⟨A0, hA0⟩ : ∃ A, (rq K (f : Int) (n : Int) s0 nx y).toArray = A := ⟨_, rfl⟩
 obtain ⟨A1, hA1⟩ : ∃ A, (rq K (f : Int) (n : Int) s nx y).toArray = A := ⟨_, rfl⟩
 obtain ⟨A2, hA2⟩ : ∃ A, (rq K (f : Int) (n : Int) s nx lim).toArray = A := ⟨_, rfl⟩
 obtain ⟨AZ, hAZ⟩ : ∃ A, (rq z32 0 0 zs 0 0).toArray = A := ⟨_, rfl⟩
 obtain ⟨w1, hw1⟩ : ∃ w1, ((w.alloc (.cells A0 44)).alloc (.cells (sa s) 42)).alloc (.cells AZ 44) = w1 := ⟨_, rfl⟩
 have hs1 : (w.alloc (.cells A0 44)).heap.size = S + 1 := by simp [hS]
 have hs2 : ((w.alloc (.cells A0 44)).alloc (.cells (sa s) 42)).heap.size = S + 2 := by simp [hS]
 have hb1 : Below w.heap.size w w1 := by rw [<- hw1]; exact (((Below.refl _ _).alloc (Nat.le_refl _) _).alloc (by simp) _).alloc (by simp; omega) _
 have k1 : w1.heap[S]? = some (.cells (rq K (f : Int) (n : Int) s0 nx y).toArray 44 (0, 0)) := by rw [<- hw1, hA0]; exact al_old (al_old (al_at hS))
 have k2 : w1.heap[S + 1]? = some (.cells (sa s) 42 (0, 0)) := by rw [<- hw1]; exact al_old (al_at hs1)
 have k3 : w1.heap[S + 2]? = some (.cells AZ 44 (0, 0)) := by rw [<- hw1]; exact al_at hs2
 have HZ : Box ((Tryd.prog.info? 44).map (·.zero) = some (some (.agg AZ))) := ⟨hAZ ▸ zeroRj⟩
 have l0 : (rq K (f : Int) (n : Int) s0 nx y).length = 70 := len_rq _ _ _ _ _ _ hK h0
 have l2 : (rq K (f : Int) (n : Int) s nx lim).length = 70 := len_rq _ _ _ _ _ _ hK hs
 obtain ⟨-, q33, -, -, -⟩ := rq_at (f := (f : Int)) (n := (n : Int)) (x := nx) (y := y) hK h0
 have d33 := cell_at k1 q33
 have c0 : w1.cell? ⟨S + 1, 0, none⟩ = some (.int .u64 (s.start : Int)) := by rw [cell_of_row _ _ _ _ _ _ k2]; rfl
 have c1 : w1.cell? ⟨S + 1, 1, none⟩ = some (.int .u64 (s.count : Int)) := by rw [cell_of_row _ _ _ _ _ _ k2]; rfl
 have HRb : Box (w1.rangeAt (S + 1) 0 (scs s)) := ⟨range_sa k2⟩
 have HTh : Box (w1.there S 34 (sa s).size) := ⟨there_row k1 (by rw [size_sa hs, List.size_toArray, l0]; omega)⟩
 have HIL : Box ((Tryd.prog.info? 42).map (·.size) = some (scs s).length /\ (Tryd.prog.info? 42).map (·.size) = some (sa s).size /\ (sa s).all (·.oneCell') = true) := ⟨by rw [len_scs hs]; exact infoS13, by rw [size_sa hs]; exact infoS13, all_sa s⟩
 have HX : Box (∀ x, w1.setCells S 34 (scs s) = x -> x.heap[S]? = some (.cells A1 44 (0, 0)) /\ But S w1 x) := ⟨fun x hx => by
  rw [<- hx, setCells_row S _ (scs s) 34 (rq K (f : Int) (n : Int) s0 nx y) w1 k1 (by rw [len_scs hs, l0]; omega), rq_s _ _ _ _ _ _ _ hK h0 hs, hA1]
  exact ⟨rfl, But.setCells _ _ (But.refl _ _)⟩⟩
 have HY : Box (∀ x z : World, x.heap[S]? = some (.cells A1 44 (0, 0)) -> But S w1 x -> x.setCell ⟨S, 69, none⟩ (.int .u64 lim) = z -> z.heap[S]? = some (.cells A2 44 (0, 0)) /\ But S w1 z) := ⟨fun x z h1 h2 hz => by
  rw [<- hz, heap_setCell_same x S 69 _ _ _ h1, <- hA1, List.setIfInBounds_toArray, rq_y _ _ _ _ _ _ _ hK hs, hA2]
  exact ⟨rfl, h2.setCell 69 _⟩⟩
 have HC : Box (∀ x : World, x.heap[S]? = some (.cells A1 44 (0, 0)) -> x.cell? ⟨S, 69, none⟩ = some (.int .u64 y) /\ x.frozen? ⟨S, 69, none⟩ = false) := ⟨fun x h => by
  obtain ⟨-, -, -, -, q69⟩ := rq_at (f := (f : Int)) (n := (n : Int)) (x := nx) (y := y) hK hs
  rw [<- hA1] at h
  exact ⟨cell_at h q69, frozen_of_row _ _ _ _ _ h⟩⟩
 have HE : Box (A2.size = 70 /\ AZ.size = A2.size /\ A2.all (·.oneCell') = true /\ (Tryd.prog.info? 44).map (·.size) = some A2.size /\ A2.toList = rq K (f : Int) (n : Int) s nx lim) := ⟨by rw [<- hA2, List.size_toArray, l2], by rw [<- hAZ, <- hA2, List.size_toArray, List.size_toArray, l2]; exact len_rq _ _ _ _ _ _ len_z32 okS_zs, by rw [<- hA2]; exact all_rq _ _ _ _ _ _, by rw [<- hA2, List.size_toArray, l2]; exact infoRj, by rw [<- hA2]⟩
 have HB : Box (Below w.heap.size w w1 /\ w.heap.size = S /\ w1.heap[S + 2]? = some (.cells AZ 44 (0, 0))) := ⟨hb1, hS, k3⟩
 have g1 : decide (n <= s.start) = false := by simp; omega
 have g2 : decide (n < s.count) = false := by simp; omega
 have g3 : ¬ (9223372036854775807 : Int) < lim := by omega
 rw [hA0, hA2]
 clear hK h0 hs h1 h2 hl k1 k2 k3 hb1 hA0 hA1 hA2 hAZ q33 l0 l2
 go_enter Tryd.func25, Tryd.ntmps25
 go_upto_region 1 with (refine atAlloc _ ?_; refine wpList_run rfl _ _ (exec_alloc 44 rfl _ HZ.out) ?_)
 (try rw [hs2])
 (try rw [hs1])
 (try simp only [hw1])
 clear hs1 hs2 hw1 hS
 go_upto_region 4 with (first
  | (refine atLoad 42 ?_; refine wpList_ldMid rfl 42 _ _ rfl Tryd.underlying42 rfl (S + 1) 0 rfl (scs s) HIL.out.1 HRb.out ?_)
  | (refine atStore _ ?_; refine wpList_store_mid rfl 42 _ _ rfl S 34 (sa s) rfl rfl HTh.out HIL.out.2.1 HIL.out.2.2 ?_))
 rw [toList_sa]
 obtain ⟨x2, hx2⟩ : ∃ x, w1.setCells S 34 (scs s) = x := ⟨_, rfl⟩
 have H2 : Box _ := ⟨HX.out x2 hx2⟩
 rw [hx2]
 clear hx2 HX HTh HRb c0 c1 d33 g1 g2
 obtain ⟨c69, f69⟩ := HC.out x2 H2.out.1
 go_upto_region 5 with fail
 obtain ⟨x3, hx3⟩ : ∃ x, x2.setCell ⟨S, 69, none⟩ (.int .u64 lim) = x := ⟨_, rfl⟩
 have H3 : Box _ := ⟨HY.out x2 x3 H2.out.1 H2.out.2 hx3⟩
 rw [hx3]
 clear hx3 HY H2 c69 f69 HC
 have HR3 : Box (x3.rangeAt S 0 A2.toList /\ x3.heap[S + 2]? = some (.cells AZ 44 (0, 0)) /\ (Tryd.prog.info? 44).map (·.size) = some A2.toList.length) := ⟨range_row (by rw [Array.toArray_toList]; exact H3.out.1), (H3.out.2.block (S + 2) (Array.getElem?_eq_some_iff.1 HB.out.2.2).1 (by omega)).trans HB.out.2.2, by rw [Array.length_toList]; exact HE.out.2.2.2.1⟩
 go_wp2_with (first
  | (refine atLoad 44 ?_; refine wpList_ldMid rfl 44 _ _ rfl Tryd.underlying44 rfl S 0 rfl A2.toList HR3.out.2.2 HR3.out.1 ?_; rw [Array.toArray_toList])
  | (refine atStore _ ?_; refine wpList_store_row rfl 44 _ _ rfl (S + 2) A2 rfl rfl 44 AZ HR3.out.2.1 HE.out.2.2.2.1 HE.out.2.1 HE.out.2.2.1 ?_))
 refine bodyPost_ret (results_cell (t := 6) (ty := 44) rfl _ _ (S + 2) A2.toList _ rfl (range_row (by rw [Array.toArray_toList]; exact setRow_heap _ _ _ _ _ _ HR3.out.2.1)) Tryd.underlying44 rfl HR3.out.2.2) rfl ?_
 exact ⟨by rw [Array.toArray_toList], below_but (below_but HB.out.1 H3.out.2 (by have := HB.out.2.1; omega) HB.out.1.size) (but_setRow _ _ _) (by have := HB.out.2.1; omega) (Nat.le_trans HB.out.1.size H3.out.2.size)⟩
theorem radopt_big (K : List Int) (hK : K.length = 32) (f n : Nat) (s0 s : Jst) (h0 : OkS s0) (hs : OkS s) (h1 : s.start < n) (h2 : s.count <= n) (nx y lim : Int) (hl : 9223372036854775807 < lim) (w : World) :
  Calls Tryd.prog 25 #[.agg (rq K (f : Int) (n : Int) s0 nx y).toArray, .agg (sa s), .int .u64 lim] w fun e w' => e = .returned (.agg (rq K (f : Int) (n : Int) s nx 9223372036854775807).toArray) /\ Below w.heap.size w w' := by
 obtain ⟨S, hS⟩ : ∃ S, w.heap.size = S := ⟨_, rfl⟩
 obtain ⟨A0, hA0⟩ : ∃ A, (rq K (f : Int) (n : Int) s0 nx y).toArray = A := ⟨_, rfl⟩
 obtain ⟨A1, hA1⟩ : ∃ A, (rq K (f : Int) (n : Int) s nx y).toArray = A := ⟨_, rfl⟩
 obtain ⟨A2, hA2⟩ : ∃ A, (rq K (f : Int) (n : Int) s nx 9223372036854775807).toArray = A := ⟨_, rfl⟩
 obtain ⟨AZ, hAZ⟩ : ∃ A, (rq z32 0 0 zs 0 0).toArray = A := ⟨_, rfl⟩
 obtain ⟨w1, hw1⟩ : ∃ w1, ((w.alloc (.cells A0 44)).alloc (.cells (sa s) 42)).alloc (.cells AZ 44) = w1 := ⟨_, rfl⟩
 have hs1 : (w.alloc (.cells A0 44)).heap.size = S + 1 := by simp [hS]
 have hs2 : ((w.alloc (.cells A0 44)).alloc (.cells (sa s) 42)).heap.size = S + 2 := by simp [hS]
 have hb1 : Below w.heap.size w w1 := by rw [<- hw1]; exact (((Below.refl _ _).alloc (Nat.le_refl _) _).alloc (by simp) _).alloc (by simp; omega) _
 have k1 : w1.heap[S]? = some (.cells (rq K (f : Int) (n : Int) s0 nx y).toArray 44 (0, 0)) := by rw [<- hw1, hA0]; exact al_old (al_old (al_at hS))
 have k2 : w1.heap[S + 1]? = some (.cells (sa s) 42 (0, 0)) := by rw [<- hw1]; exact al_old (al_at hs1)
 have k3 : w1.heap[S + 2]? = some (.cells AZ 44 (0, 0)) := by rw [<- hw1]; exact al_at hs2
 have HZ : Box ((Tryd.prog.info? 44).map (·.zero) = some (some (.agg AZ))) := ⟨hAZ ▸ zeroRj⟩
 have l0 : (rq K (f : Int) (n : Int) s0 nx y).length = 70 := len_rq _ _ _ _ _ _ hK h0
 have l2 : (rq K (f : Int) (n : Int) s nx 9223372036854775807).length = 70 := len_rq _ _ _ _ _ _ hK hs
 obtain ⟨-, q33, -, -, -⟩ := rq_at (f := (f : Int)) (n := (n : Int)) (x := nx) (y := y) hK h0
 have d33 := cell_at k1 q33
 have c0 : w1.cell? ⟨S + 1, 0, none⟩ = some (.int .u64 (s.start : Int)) := by rw [cell_of_row _ _ _ _ _ _ k2]; rfl
 have c1 : w1.cell? ⟨S + 1, 1, none⟩ = some (.int .u64 (s.count : Int)) := by rw [cell_of_row _ _ _ _ _ _ k2]; rfl
 have HRb : Box (w1.rangeAt (S + 1) 0 (scs s)) := ⟨range_sa k2⟩
 have HTh : Box (w1.there S 34 (sa s).size) := ⟨there_row k1 (by rw [size_sa hs, List.size_toArray, l0]; omega)⟩
 have HIL : Box ((Tryd.prog.info? 42).map (·.size) = some (scs s).length /\ (Tryd.prog.info? 42).map (·.size) = some (sa s).size /\ (sa s).all (·.oneCell') = true) := ⟨by rw [len_scs hs]; exact infoS13, by rw [size_sa hs]; exact infoS13, all_sa s⟩
 have HX : Box (∀ x, w1.setCells S 34 (scs s) = x -> x.heap[S]? = some (.cells A1 44 (0, 0)) /\ But S w1 x) := ⟨fun x hx => by
  rw [<- hx, setCells_row S _ (scs s) 34 (rq K (f : Int) (n : Int) s0 nx y) w1 k1 (by rw [len_scs hs, l0]; omega), rq_s _ _ _ _ _ _ _ hK h0 hs, hA1]
  exact ⟨rfl, But.setCells _ _ (But.refl _ _)⟩⟩
 have HY : Box (∀ x x' z : World, x.heap[S]? = some (.cells A1 44 (0, 0)) -> But S w1 x -> x.setCell ⟨S, 69, none⟩ (.int .u64 lim) = x' -> x'.setCell ⟨S, 69, none⟩ (.int .u64 9223372036854775807) = z -> z.heap[S]? = some (.cells A2 44 (0, 0)) /\ But S w1 z) := ⟨fun x x' z h1 h2 hx hz => by
  have e1 : x'.heap[S]? = some (.cells (rq K (f : Int) (n : Int) s nx lim).toArray 44 (0, 0)) := by rw [<- hx, heap_setCell_same x S 69 _ _ _ h1, <- hA1, List.setIfInBounds_toArray, rq_y _ _ _ _ _ _ _ hK hs]
  rw [<- hz, heap_setCell_same x' S 69 _ _ _ e1, List.setIfInBounds_toArray, rq_y _ _ _ _ _ _ _ hK hs, hA2]
  exact ⟨rfl, by rw [<- hx]; exact (h2.setCell 69 _).setCell 69 _⟩⟩
 have HC2 : Box (∀ x x' : World, x.heap[S]? = some (.cells A1 44 (0, 0)) -> x.setCell ⟨S, 69, none⟩ (.int .u64 lim) = x' -> x'.cell? ⟨S, 69, none⟩ = some (.int .u64 lim) /\ x'.frozen? ⟨S, 69, none⟩ = false) := ⟨fun x x' h1 hx => by
  have e1 : x'.heap[S]? = some (.cells (rq K (f : Int) (n : Int) s nx lim).toArray 44 (0, 0)) := by rw [<- hx, heap_setCell_same x S 69 _ _ _ h1, <- hA1, List.setIfInBounds_toArray, rq_y _ _ _ _ _ _ _ hK hs]
  obtain ⟨-, -, -, -, q69⟩ := rq_at (f := (f : Int)) (n := (n : Int)) (x := nx) (y := lim) hK hs
  exact ⟨cell_at e1 q69, frozen_of_row _ _ _ _ _ e1⟩⟩
 have HC : Box (∀ x : World, x.heap[S]? = some (.cells A1 44 (0, 0)) -> x.cell? ⟨S, 69, none⟩ = some (.int .u64 y) /\ x.frozen? ⟨S, 69, none⟩ = false) := ⟨fun x h => by
  obtain ⟨-, -, -, -, q69⟩ := rq_at (f := (f : Int)) (n := (n : Int)) (x := nx) (y := y) hK hs
  rw [<- hA1] at h
  exact ⟨cell_at h q69, frozen_of_row _ _ _ _ _ h⟩⟩
 have HE : Box (A2.size = 70 /\ AZ.size = A2.size /\ A2.all (·.oneCell') = true /\ (Tryd.prog.info? 44).map (·.size) = some A2.size /\ A2.toList = rq K (f : Int) (n : Int) s nx 9223372036854775807) := ⟨by rw [<- hA2, List.size_toArray, l2], by rw [<- hAZ, <- hA2, List.size_toArray, List.size_toArray, l2]; exact len_rq _ _ _ _ _ _ len_z32 okS_zs, by rw [<- hA2]; exact all_rq _ _ _ _ _ _, by rw [<- hA2, List.size_toArray, l2]; exact infoRj, by rw [<- hA2]⟩
 have HB : Box (Below w.heap.size w w1 /\ w.heap.size = S /\ w1.heap[S + 2]? = some (.cells AZ 44 (0, 0))) := ⟨hb1, hS, k3⟩
 have g1 : decide (n <= s.start) = false := by simp; omega
 have g2 : decide (n < s.count) = false := by simp; omega
 have g3 : decide ((9223372036854775807 : Int) < lim) = true := by simpa using hl
 rw [hA0, hA2]
 clear hK h0 hs h1 h2 hl k1 k2 k3 hb1 hA0 hA1 hA2 hAZ q33 l0 l2
 go_enter Tryd.func25, Tryd.ntmps25
 go_upto_region 1 with (refine atAlloc _ ?_; refine wpList_run rfl _ _ (exec_alloc 44 rfl _ HZ.out) ?_)
 (try rw [hs2])
 (try rw [hs1])
 (try simp only [hw1])
 clear hs1 hs2 hw1 hS
 go_upto_region 4 with (first
  | (refine atLoad 42 ?_; refine wpList_ldMid rfl 42 _ _ rfl Tryd.underlying42 rfl (S + 1) 0 rfl (scs s) HIL.out.1 HRb.out ?_)
  | (refine atStore _ ?_; refine wpList_store_mid rfl 42 _ _ rfl S 34 (sa s) rfl rfl HTh.out HIL.out.2.1 HIL.out.2.2 ?_))
 rw [toList_sa]
 obtain ⟨x2, hx2⟩ : ∃ x, w1.setCells S 34 (scs s) = x := ⟨_, rfl⟩
 have H2 : Box _ := ⟨HX.out x2 hx2⟩
 rw [hx2]
 clear hx2 HX HTh HRb c0 c1 d33 g1 g2
 obtain ⟨c69, f69⟩ := HC.out x2 H2.out.1
 go_upto_region 5 with fail
 obtain ⟨x3, hx3⟩ : ∃ x, x2.setCell ⟨S, 69, none⟩ (.int .u64 lim) = x := ⟨_, rfl⟩
 obtain ⟨d69, e69⟩ := HC2.out x2 x3 H2.out.1 hx3
 rw [hx3]
 go_upto_region 7 with fail
 obtain ⟨x4, hx4⟩ : ∃ x, x3.setCell ⟨S, 69, none⟩ (.int .u64 9223372036854775807) = x := ⟨_, rfl⟩
 have H3 : Box _ := ⟨HY.out x2 x3 x4 H2.out.1 H2.out.2 hx3 hx4⟩
 rw [hx4]
 clear hx3 hx4 HY H2 c69 f69 d69 e69 HC HC2
 have HR3 : Box (x4.rangeAt S 0 A2.toList /\ x4.heap[S + 2]? = some (.cells AZ 44 (0, 0)) /\ (Tryd.prog.info? 44).map (·.size) = some A2.toList.length) := ⟨range_row (by rw [Array.toArray_toList]; exact H3.out.1), (H3.out.2.block (S + 2) (Array.getElem?_eq_some_iff.1 HB.out.2.2).1 (by omega)).trans HB.out.2.2, by rw [Array.length_toList]; exact HE.out.2.2.2.1⟩
 go_wp2_with (first
  | (refine atLoad 44 ?_; refine wpList_ldMid rfl 44 _ _ rfl Tryd.underlying44 rfl S 0 rfl A2.toList HR3.out.2.2 HR3.out.1 ?_; rw [Array.toArray_toList])
  | (refine atStore _ ?_; refine wpList_store_row rfl 44 _ _ rfl (S + 2) A2 rfl rfl 44 AZ HR3.out.2.1 HE.out.2.2.2.1 HE.out.2.1 HE.out.2.2.1 ?_))
 refine bodyPost_ret (results_cell (t := 6) (ty := 44) rfl _ _ (S + 2) A2.toList _ rfl (range_row (by rw [Array.toArray_toList]; exact setRow_heap _ _ _ _ _ _ HR3.out.2.1)) Tryd.underlying44 rfl HR3.out.2.2) rfl ?_
 exact ⟨by rw [Array.toArray_toList], below_but (below_but HB.out.1 H3.out.2 (by have := HB.out.2.1; omega) HB.out.1.size) (but_setRow _ _ _) (by have := HB.out.2.1; omega) (Nat.le_trans HB.out.1.size H3.out.2.size)⟩
theorem radopt_no (K : List Int) (hK : K.length = 32) (f n : Nat) (s0 s : Jst) (h0 : OkS s0) (hs : OkS s) (h1 : n <= s.start ∨ s.start < n /\ n < s.count) (nx y lim : Int) (w : World) :
  Calls Tryd.prog 25 #[.agg (rq K (f : Int) (n : Int) s0 nx y).toArray, .agg (sa s), .int .u64 lim] w fun e w' => e = .returned (.agg (rq K (f : Int) (n : Int) s0 nx y).toArray) /\ Below w.heap.size w w' := by
 obtain ⟨S, hS⟩ : ∃ S, w.heap.size = S := ⟨_, rfl⟩
 obtain ⟨A0, hA0⟩ : ∃ A, (rq K (f : Int) (n : Int) s0 nx y).toArray = A := ⟨_, rfl⟩
 obtain ⟨AZ, hAZ⟩ : ∃ A, (rq z32 0 0 zs 0 0).toArray = A := ⟨_, rfl⟩
 obtain ⟨w1, hw1⟩ : ∃ w1, ((w.alloc (.cells A0 44)).alloc (.cells (sa s) 42)).alloc (.cells AZ 44) = w1 := ⟨_, rfl⟩
 have hs1 : (w.alloc (.cells A0 44)).heap.size = S + 1 := by simp [hS]
 have hs2 : ((w.alloc (.cells A0 44)).alloc (.cells (sa s) 42)).heap.size = S + 2 := by simp [hS]
 have hb1 : Below w.heap.size w w1 := by rw [<- hw1]; exact (((Below.refl _ _).alloc (Nat.le_refl _) _).alloc (by simp) _).alloc (by simp; omega) _
 have k1 : w1.heap[S]? = some (.cells (rq K (f : Int) (n : Int) s0 nx y).toArray 44 (0, 0)) := by rw [<- hw1, hA0]; exact al_old (al_old (al_at hS))
 have k2 : w1.heap[S + 1]? = some (.cells (sa s) 42 (0, 0)) := by rw [<- hw1]; exact al_old (al_at hs1)
 have k3 : w1.heap[S + 2]? = some (.cells AZ 44 (0, 0)) := by rw [<- hw1]; exact al_at hs2
 have HZ : Box ((Tryd.prog.info? 44).map (·.zero) = some (some (.agg AZ))) := ⟨hAZ ▸ zeroRj⟩
 have l0 : (rq K (f : Int) (n : Int) s0 nx y).length = 70 := len_rq _ _ _ _ _ _ hK h0
 obtain ⟨-, q33, -, -, -⟩ := rq_at (f := (f : Int)) (n := (n : Int)) (x := nx) (y := y) hK h0
 have d33 := cell_at k1 q33
 have c0 : w1.cell? ⟨S + 1, 0, none⟩ = some (.int .u64 (s.start : Int)) := by rw [cell_of_row _ _ _ _ _ _ k2]; rfl
 have c1 : w1.cell? ⟨S + 1, 1, none⟩ = some (.int .u64 (s.count : Int)) := by rw [cell_of_row _ _ _ _ _ _ k2]; rfl
 have HE : Box (A0.size = 70 /\ AZ.size = A0.size /\ A0.all (·.oneCell') = true /\ (Tryd.prog.info? 44).map (·.size) = some A0.size) := ⟨by rw [<- hA0, List.size_toArray, l0], by rw [<- hA0, <- hAZ, List.size_toArray, List.size_toArray, l0, len_rq _ _ _ _ _ _ len_z32 okS_zs], by rw [<- hA0]; exact all_rq _ _ _ _ _ _, by rw [<- hA0, List.size_toArray, l0]; exact infoRj⟩
 have HB : Box (Below w.heap.size w w1 /\ w.heap.size = S /\ w1.heap[S + 2]? = some (.cells AZ 44 (0, 0))) := ⟨hb1, hS, k3⟩
 rw [hA0]
 have HK1 : Box (w1.heap[S]? = some (.cells A0 44 (0, 0))) := ⟨by rw [<- hA0]; exact k1⟩
 clear hK h0 hs k1 k2 k3 hb1 hA0 hAZ q33 l0
 go_enter Tryd.func25, Tryd.ntmps25
 go_upto_region 1 with (refine atAlloc _ ?_; refine wpList_run rfl _ _ (exec_alloc 44 rfl _ HZ.out) ?_)
 (try rw [hs2])
 (try rw [hs1])
 (try simp only [hw1])
 clear hs1 hs2 hw1 hS
 have HR3 : Box (w1.rangeAt S 0 A0.toList /\ w1.heap[S + 2]? = some (.cells AZ 44 (0, 0)) /\ (Tryd.prog.info? 44).map (·.size) = some A0.toList.length) := ⟨range_row (by rw [Array.toArray_toList]; exact HK1.out), HB.out.2.2, by rw [Array.length_toList]; exact HE.out.2.2.2⟩
 rcases h1 with g5 | ⟨g5, g6⟩
 ·have e5 : decide (n <= s.start) = true := by simpa using g5
  go_wp2_with (first
   | (refine atLoad 44 ?_; refine wpList_ldMid rfl 44 _ _ rfl Tryd.underlying44 rfl S 0 rfl A0.toList HR3.out.2.2 HR3.out.1 ?_; rw [Array.toArray_toList])
   | (refine atStore _ ?_; refine wpList_store_row rfl 44 _ _ rfl (S + 2) A0 rfl rfl 44 AZ HR3.out.2.1 HE.out.2.2.2 HE.out.2.1 HE.out.2.2.1 ?_))
  refine bodyPost_ret (results_cell (t := 6) (ty := 44) rfl _ _ (S + 2) A0.toList _ rfl (range_row (by rw [Array.toArray_toList]; exact setRow_heap _ _ _ _ _ _ HR3.out.2.1)) Tryd.underlying44 rfl HR3.out.2.2) rfl ?_
  exact ⟨by rw [Array.toArray_toList], below_but HB.out.1 (but_setRow _ _ _) (by have := HB.out.2.1; omega) HB.out.1.size⟩
 ·have e5 : decide (n <= s.start) = false := by simpa using g5
  have e6 : decide (n < s.count) = true := by simpa using g6
  go_wp2_with (first
   | (refine atLoad 44 ?_; refine wpList_ldMid rfl 44 _ _ rfl Tryd.underlying44 rfl S 0 rfl A0.toList HR3.out.2.2 HR3.out.1 ?_; rw [Array.toArray_toList])
   | (refine atStore _ ?_; refine wpList_store_row rfl 44 _ _ rfl (S + 2) A0 rfl rfl 44 AZ HR3.out.2.1 HE.out.2.2.2 HE.out.2.1 HE.out.2.2.1 ?_))
  refine bodyPost_ret (results_cell (t := 6) (ty := 44) rfl _ _ (S + 2) A0.toList _ rfl (range_row (by rw [Array.toArray_toList]; exact setRow_heap _ _ _ _ _ _ HR3.out.2.1)) Tryd.underlying44 rfl HR3.out.2.2) rfl ?_
  exact ⟨by rw [Array.toArray_toList], below_but HB.out.1 (but_setRow _ _ _) (by have := HB.out.2.1; omega) HB.out.1.size⟩
theorem radopt_any (K : List Int) (hK : K.length = 32) (j : Jt) (hj : j.key = K) (ok : j.Ok) (s : Jst) (hs : OkS s) (lim : Int) (hl : 0 <= lim) (w : World) :
  Calls Tryd.prog 25 #[.agg (rq j.key (j.first : Int) (j.size : Int) j.st j.nx j.lim).toArray, .agg (sa s), .int .u64 lim] w fun e w' => e = .returned (.agg (rq (adp j s lim).key ((adp j s lim).first : Int) ((adp j s lim).size : Int) (adp j s lim).st (adp j s lim).nx (adp j s lim).lim).toArray) /\ Below w.heap.size w w' := by
 by_cases hm : may j.size s = true
 ·have e : adp j s lim = { j with st := s, lim := mn63 lim } := by unfold adp; rw [if_pos hm]
  rw [e]
  obtain ⟨m1, m2⟩ := may_ok hm
  by_cases hx : lim <= 9223372036854775807
  ·have e2 : mn63 lim = lim := by unfold mn63; omega
   rw [e2]
   exact radopt_ok j.key ok.key j.first j.size j.st s ok.st hs m1 m2 j.nx j.lim lim ⟨hl, hx⟩ w
  ·have e2 : mn63 lim = 9223372036854775807 := by unfold mn63; omega
   rw [e2]
   exact radopt_big j.key ok.key j.first j.size j.st s ok.st hs m1 m2 j.nx j.lim lim (by omega) w
 ·have e : adp j s lim = j := by unfold adp; rw [if_neg hm]
  rw [e]
  refine radopt_no j.key ok.key j.first j.size j.st s ok.st hs ?_ j.nx j.lim lim w
  simp only [may, Bool.and_eq_true, decide_eq_true_eq] at hm
  omega
end Go.Proofs.YthfobaeafapbnaaDoor
