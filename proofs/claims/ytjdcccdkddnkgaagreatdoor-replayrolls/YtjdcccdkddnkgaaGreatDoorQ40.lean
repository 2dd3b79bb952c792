/-
  What awake of layer 14's laws comes to, plainly. And what follows it.
-/
import Derived.Test.YtjdcccdkddnkgaaGreatDoorQ37
import Derived.Test.YtjdcccdkddnkgaaGreatDoorQ39
import Derived.Test.YtjdcccdkddnkgaaGreatDoorQ32
namespace Go.Proofs.YtjdcccdkddnkgaaGreatDoor
set_option maxRecDepth 100000
set_option linter.unusedVariables false
set_option maxRecDepth 100000
open Go.RowKit Plain
attribute [local go_sem] Oper.semAt_some
def j0 : Jt := ⟨k1, 0, 4, zs, 1, 100⟩
theorem ok_j0 : j0.Ok := ⟨len_k1, byt_k1, by decide, by decide, okS_zs, by decide, by decide, by decide, by decide⟩
def s01 : Jst := ⟨0, 1, z32⟩
theorem okS_s01 : OkS s01 := ⟨len_z32, byt_z32, by decide, by decide⟩
theorem built_St01 : Tryz.prog.built 27 [(1, .int .u64 1)] = some (sa s01) := by kernel_rfl
/-- One image in a block of its own. -/
theorem aw_img1 {w y : World} {g N : Nat} (hg : w.heap[g]? = some (.cells (u8s z160) 5 (0, 0))) (hb : Below w.heap.size w y) (hr : y.heap[N]? = some (.cells #[.int .u64 3, .slice (some ⟨g, 0, none⟩) 160 160] 76 (0, 0))) : Imgs y (some ⟨N, 0, none⟩) [⟨3, some ⟨g, 0, none⟩, 160, 160, z160⟩] := by
  refine imgs_of_row (M := [⟨3, some ⟨g, 0, none⟩, 160, 160, z160⟩]) (by rw [hr]; rfl) fun m hm => ?_
  simp only [List.mem_cons, List.not_mem_nil, or_false] at hm
  subst hm
  have hgy : y.heap[g]? = some (.cells (u8s z160) 5 (0, 0)) := (hb.block g (Array.getElem?_eq_some_iff.1 hg).1).trans hg
  refine ⟨?_, ⟨by show (0 : Int) ≤ 3; decide, by show (3 : Int) ≤ _; decide⟩, by show 160 ≤ 160; omega, by show 160 ≤ maxLen; unfold maxLen; omega⟩
  have := bytes_of_row byt_z160 hgy
  rwa [len_z160] at this
theorem aw_app (d : Disk.Dk) (hd : Up d) : ∃ d1 s1, appM j0 d [x3] = (d1, 2, 0, s1) ∧ s1.start = 0 ∧ s1.count = 1 ∧ OkS s1 ∧ Up d1 ∧ d1.n = d.n ∧ d1.ops.length = d.ops.length + 1 ∧ d1.uw.length = d.uw.length + 1 ∧ LGood d1 k1 0 4 s1 ∧ ldC d1 k1 0 4 s1 = [[x3]] ∧ ¬ LGood d1 k1 0 4 s01 := by
  have hb : bad [x3] = false := by simp [bad, x3, len_z160]
  have hu := appM_up j0 ok_j0 d [x3] hd hb (by decide) (by decide)
  have hj := jn_appM j0 ok_j0 d [x3] hd hb (by decide) (by decide) (fun x hx => by
    simp only [List.mem_cons, List.not_mem_nil, or_false] at hx
    subst hx
    exact ⟨len_z160, byt_z160, by decide, by decide⟩) (jn_nil d k1 0 4 0)
  have ho := ap_one j0 d x3 len_z160 (by decide) (by decide) hd.1 hd.2
  have hj2 : Jn (appM j0 d [x3]).1 k1 0 4 (appM j0 d [x3]).2.2.2 (([[x3]].map ofP).flatten) := by
    rw [List.nil_append] at hj
    have e : ([[x3]].map ofP).flatten = ofP [x3] := by simp
    rw [e]
    exact hj
  obtain ⟨g1, g2⟩ := jn_load hj2 (by simp)
  refine ⟨(appM j0 d [x3]).1, (appM j0 d [x3]).2.2.2, ?_, hu.st, hu.ct, hu.okS (by decide) (by decide), hu.up, hu.nn, by rw [hu.ops]; simp [pls], ?_, g1, g2, fun h => ?_⟩
  · have e1 := hu.nx
    have e2 := hu.er
    generalize appM j0 d [x3] = y at e1 e2 ⊢
    obtain ⟨y1, y2, y3, y4⟩ := y
    simp only at e1 e2
    subst e2
    rw [e1]
    rfl
  · obtain ⟨W, hW, hW2⟩ := hu.uw
    have := congrArg List.length hW2
    rw [hW]
    simp [pls] at this ⊢
    omega
  · have h1 := h.1
    rw [ho] at h1
    have e : lds (Disk.wrOk d (plc j0 (j0.st.start + j0.st.count)) (slt j0.key (plc j0 (j0.st.start + j0.st.count) : Int) j0.nx (x3, true))) 0 4 s01 = [(0, slt k1 0 1 (x3, true))] := by
      show (pcs 0 4 0 1).map _ = _
      have e2 : pcs 0 4 0 1 = [0] := by decide
      rw [e2]
      show [(0, Disk.lat (Disk.wrOk d 0 (slt k1 ((0 : Nat) : Int) 1 (x3, true))) 0)] = _
      rw [Disk.lat_wr, if_pos rfl]
      rfl
    have h2 : chn [(0, slt k1 0 1 (x3, true))] = z32 := by rw [← e]; exact h1
    exact link_one h2
end Go.Proofs.YtjdcccdkddnkgaaGreatDoor
namespace Go.Proofs.YtjdcccdkddnkgaaGreatDoor
set_option maxRecDepth 100000
set_option linter.unusedVariables false
open Go.RowKit Plain
attribute [local go_sem] Oper.semAt_some
set_option maxHeartbeats 8000000 in
theorem awake14_v (w : World) (hT : Dig.Tabs w) (hT2 : Seal.Tab w) : Calls Tryz.prog 6 #[] w fun e w' => e = .returned (.bool true) ∧ Below w.heap.size w w' := by
  obtain ⟨D, hD⟩ : ∃ D, w.heap.size + 1 = D := ⟨_, rfl⟩
  have HD : Box (Calls Tryz.prog 7 #[.int .i64 4] w fun e w' => e = .returned (.tuple #[.pointer (some ⟨D, 0, none⟩), .int .i64 0]) ∧ ∃ fp, Disk.Cx w w' D fp (Disk.dk0 4)) := ⟨by have := Disk.new_cx w 4 ⟨by omega, by omega⟩; rw [hD] at this; exact this⟩
  obtain ⟨d0, hd0⟩ : ∃ d0, Disk.dk0 4 = d0 := ⟨_, rfl⟩
  rw [hd0] at HD
  have HD0 : Box (Up d0 ∧ d0.n = 4 ∧ d0.ops.length = 0 ∧ d0.uw.length = 0 ∧ (0 ≤ d0.left ∧ d0.left ≤ 9223372036854775807)) := ⟨by rw [← hd0]; exact ⟨⟨rfl, rfl⟩, rfl, rfl, rfl, by decide, by decide⟩⟩
  have HT : Box (Dig.Tabs w ∧ Seal.Tab w) := ⟨hT, hT2⟩
  obtain ⟨AK, HAK⟩ : ∃ A, Box (u8s k1 = A) := ⟨_, ⟨rfl⟩⟩
  obtain ⟨SZ, HSZ⟩ : ∃ A, Box (sa zs = A) := ⟨_, ⟨rfl⟩⟩
  obtain ⟨SO, HSO⟩ : ∃ A, Box (sa s01 = A) := ⟨_, ⟨rfl⟩⟩
  obtain ⟨d1, s1, hs1⟩ := aw_app d0 HD0.out.1
  have HS1 : Box _ := ⟨hs1⟩
  clear hs1
  obtain ⟨SA, HSA⟩ : ∃ A, Box (sa s1 = A) := ⟨_, ⟨rfl⟩⟩
  have HIS : Box ((Tryz.prog.info? 27).map (·.size) = some SA.size ∧ (sa zs).size = SA.size ∧ SA.all (·.oneCell') = true ∧ (Tryz.prog.info? 27).map (·.size) = some (scs s1).length ∧ (scs s1).toArray = SA) := ⟨by rw [← HSA.out, size_sa HS1.out.2.2.2.1]; exact infoSt, by rw [← HSA.out, size_sa HS1.out.2.2.2.1, size_sa okS_zs], by rw [← HSA.out]; exact all_sa s1, by rw [len_scs HS1.out.2.2.2.1]; exact infoSt, by rw [← HSA.out]; rfl⟩
  clear hT hT2 hD hd0
  go_enter Tryz.func6, Tryz.ntmps6
  go_upto_region 2 with (go_at_call 7; refine HD.out.mono ?_; rintro e x1 ⟨rfl, fp1, hc⟩; have H1 : Box (Disk.Cx w x1 D fp1 d0) := ⟨hc⟩; clear hc)
  have HJN : Box (Calls Tryz.prog 9 #[.pointer (some ⟨D, 0, none⟩), .agg AK, .int .i64 0, .int .i64 4, .agg SZ, .int .u64 1, .int .u64 100] x1 fun e w' => ∃ J, e = .returned (.tuple #[.pointer (some ⟨J, 0, none⟩), .int .i64 0]) ∧ JC w w' J D fp1 j0 d0) := ⟨by
    have := jnew_ok H1.out k1 ⟨len_k1, byt_k1⟩ 0 4 (by omega) (by rw [HD0.out.2.1]; omega) (by rw [HD0.out.2.1]; omega) zs okS_zs (by decide) 1 100 ⟨by omega, by omega⟩ ⟨by omega, by omega⟩ HT.out.1 HT.out.2
    rw [HAK.out, HSZ.out] at this
    exact this.mono fun e w' ⟨J, h1, h2, _⟩ => ⟨J, h1, h2⟩⟩
  go_upto_region 3 with (first
    | (refine atBuild 23 ?_; refine wpList_run rfl _ _ (exec_built 23 [(0, .const (.int .u8 1))] rfl [(0, .int .u8 1)] rfl AK (by rw [← HAK.out]; exact built_K)) ?_)
    | (refine atBuild 27 ?_; refine wpList_run rfl _ _ (exec_built 27 [] rfl [] rfl SZ (by rw [← HSZ.out]; exact built_St0)) ?_)
    | (go_at_call 9; refine HJN.out.mono ?_; rintro e x2 ⟨J, rfl, hc⟩; have H2 : Box (JC w x2 J D fp1 j0 d0) := ⟨hc⟩; clear hc))
  clear HJN HD
  go_upto_region 5 with fail
  have HL1 : Box (Calls Tryz.prog 25 #[.pointer (some ⟨D, 0, none⟩), .agg AK, .int .i64 0, .int .i64 4, .agg SZ] x2 fun e w' => ∃ fp' a c, JC w w' J D fp' j0 d0 ∧ e = .returned (.tuple #[.slice a 0 c, .int .i64 0])) := ⟨by
    have := load_v H2.out.cx k1 ⟨len_k1, byt_k1⟩ 0 4 zs okS_zs (by omega) (by omega) (by rw [HD0.out.2.1]; omega) (by rw [HD0.out.2.1]; omega) (by decide) HD0.out.1.1 (by have := HD0.out; omega) (by have := HD0.out; omega) HT.out.1 HT.out.2
    rw [HAK.out, HSZ.out] at this
    refine this.mono ?_
    rintro e w' ⟨fp', q1, q2, q3⟩
    obtain ⟨g1, g2⟩ := jn_load (X := []) (jn_nil d0 k1 0 4 0) (by simp)
    rcases q3 with ⟨q3, _⟩ | ⟨_, u, X, B, q4, q5, _, _, q6⟩
    · exact absurd g1 q3
    · have eX : X = [] := by rw [show ldC d0 k1 0 4 zs = [] from g2] at q6; simpa using q6
      subst eX
      obtain ⟨a, c, rfl⟩ := own_form2 q5.row
      have e0 : rdD d0 (pcs 0 4 zs.start zs.count) = d0 := rdD_nil d0
      rw [e0] at q1
      exact ⟨fp', a, c, H2.out.fol q1 q2 rfl, q4⟩⟩
  go_upto_region 6 with (first
    | (refine atBuild 23 ?_; refine wpList_run rfl _ _ (exec_built 23 [(0, .const (.int .u8 1))] rfl [(0, .int .u8 1)] rfl AK (by rw [← HAK.out]; exact built_K)) ?_)
    | (refine atBuild 27 ?_; refine wpList_run rfl _ _ (exec_built 27 [] rfl [] rfl SZ (by rw [← HSZ.out]; exact built_St0)) ?_)
    | (go_at_call 25; refine HL1.out.mono ?_; rintro e y3 ⟨fp3, a3, c3, hc, rfl⟩; have H3 : Box (JC w y3 J D fp3 j0 d0) := ⟨hc⟩; clear hc))
  clear HL1
  obtain ⟨g, hg⟩ : ∃ g, y3.heap.size = g := ⟨_, rfl⟩
  obtain ⟨x4, hx4⟩ : ∃ x, y3.alloc (.cells (u8s z160) 5) = x := ⟨_, rfl⟩
  have hr4 : x4.heap[g]? = some (.cells (u8s z160) 5 (0, 0)) := by rw [← hx4]; exact al_at hg
  have hb4 : Below y3.heap.size y3 x4 := by rw [← hx4]; exact (Below.refl _ _).alloc (Nat.le_refl _) _
  have H4 : Box (x4.heap[g]? = some (.cells (u8s z160) 5 (0, 0)) ∧ Below y3.heap.size y3 x4) := ⟨hr4, hb4⟩
  have HA1 : Box (Calls Tryz.prog 12 #[.pointer (some ⟨J, 0, none⟩), .slice (some ⟨x4.heap.size, 0, none⟩) 1 1] (x4.alloc (.cells #[.int .u64 3, .slice (some ⟨g, 0, none⟩) 160 160] 76)) fun e w' => e = .returned (.tuple #[.agg SA, .int .i64 0]) ∧ ∃ fp', JC w w' J D fp' { j0 with nx := 2 } d1) := ⟨by
    obtain ⟨y, hy⟩ : ∃ y, x4.alloc (.cells #[.int .u64 3, .slice (some ⟨g, 0, none⟩) 160 160] 76) = y := ⟨_, rfl⟩
    rw [hy]
    have hb : Below x4.heap.size x4 y := by rw [← hy]; exact (Below.refl _ _).alloc (Nat.le_refl _) _
    have hM := aw_img1 H4.out.1 hb (by rw [← hy]; exact al_at rfl)
    have := append_v (H3.out.below (below_to H4.out.2 hb)) _ 1 _ hM (by simp) (fun m hm => by simp only [List.mem_cons, List.not_mem_nil, or_false] at hm; rw [hm]; show 160 ≤ _; omega) HD0.out.2.2.2.2 (by have := HD0.out; omega) (by have := HD0.out; omega)
    have e3 : appM j0 d0 ([(⟨3, some ⟨g, 0, none⟩, 160, 160, z160⟩ : Im)].map pl) = (d1, 2, 0, s1) := HS1.out.1
    rw [e3] at this
    refine this.mono ?_
    rintro e w' ⟨fp', q1, q2, q3⟩
    exact ⟨by rw [q1, HSA.out], fp', q2⟩⟩
  clear hr4 hb4
  go_upto_region 7 with (first
    | (at_make; refine wpList_run rfl _ _ (exec_make160 _ _ rfl rfl rfl) ?_; (try simp only [hg, hx4]))
    | (refine atBuild 76 ?_; refine wpList_run rfl _ _ (exec_built 76 [(0, .const (.int .u64 3)), (1, .tmp 43)] rfl [(0, .int .u64 3), (1, .slice (some ⟨g, 0, none⟩) 160 160)] rfl _ (built_Im _ _ _ _)) ?_)
    | (go_at_call 12; refine HA1.out.mono ?_; rintro e x5 ⟨rfl, fp5, hc⟩; have H5 : Box (JC w x5 J D fp5 { j0 with nx := 2 } d1) := ⟨hc⟩; clear hc)
    | (refine atAlloc _ ?_; refine wpList_run rfl _ _ (exec_alloc 27 rfl _ zeroSt) ?_)
    | (refine atStore _ ?_; refine wpList_newRow x5 (sa zs) SA HIS.out.1 HIS.out.2.1 HIS.out.2.2.1 rfl _ _ rfl rfl rfl rfl ?_; intro x6 h6 hb6; have H6 : Box (x6.heap[x5.heap.size]? = some (.cells SA 27 (0, 0)) ∧ Below x5.heap.size x5 x6) := ⟨h6, hb6⟩; clear h6 hb6))
  clear HA1
  obtain ⟨S5, hS5⟩ : ∃ S, x5.heap.size = S := ⟨_, rfl⟩
  (try simp only [hS5])
  have HR6 : Box (x6.rangeAt S5 0 (scs s1) ∧ JC w x6 J D fp5 { j0 with nx := 2 } d1) := ⟨fun i v hv => by
    have := H6.out.1
    rw [hS5] at this
    rw [cell_of_row _ _ _ _ _ _ this, Nat.zero_add, ← HIS.out.2.2.2.2]
    simpa using hv, H5.out.below H6.out.2⟩
  clear hS5 hg hx4
  have HL2 : Box (Calls Tryz.prog 25 #[.pointer (some ⟨D, 0, none⟩), .agg AK, .int .i64 0, .int .i64 4, .agg SA] x6 fun e w' => ∃ fp' a c C B, Disk.Cx w w' D fp' (rdD d1 (pcs 0 4 s1.start s1.count)) ∧ e = .returned (.tuple #[.slice a 1 c, .int .i64 0]) ∧ Chs w' B (.slice a 1 c) C ∧ (∀ k, fp' k → k < B) ∧ C.map (fun c => c.M.map pl) = [[x3]]) := ⟨by
    have hq := HS1.out
    have := load_v HR6.out.2.cx k1 ⟨len_k1, byt_k1⟩ 0 4 s1 hq.2.2.2.1 (by omega) (by omega) (by rw [hq.2.2.2.2.2.1, HD0.out.2.1]; omega) (by rw [hq.2.2.2.2.2.1, HD0.out.2.1]; omega) (by simp [may, hq.2.1, hq.2.2.1]) hq.2.2.2.2.1.1 (by have := HD0.out; have := hq.2.2.2.2.2.2.1; omega) (by have := HD0.out; have := hq.2.2.2.2.2.2.2.1; omega) HT.out.1 HT.out.2
    rw [HAK.out, HSA.out] at this
    refine this.mono ?_
    rintro e w' ⟨fp', q1, q2, q3⟩
    rcases q3 with ⟨q3, _⟩ | ⟨_, u, X, B, q4, q5, q6, q7, q8⟩
    · exact absurd hq.2.2.2.2.2.2.2.2.1 q3
    · rw [hq.2.2.2.2.2.2.2.2.2.1] at q8
      have hl : X.length = 1 := by have := congrArg List.length q8; simpa using this
      obtain ⟨a, c, rfl⟩ := own_form2 q5.row
      rw [hl] at q4 q5
      exact ⟨fp', a, c, X, B, q1, q4, q5, q7, q8⟩⟩
  go_upto_region 8 with (first
    | (refine atBuild 23 ?_; refine wpList_run rfl _ _ (exec_built 23 [(0, .const (.int .u8 1))] rfl [(0, .int .u8 1)] rfl AK (by rw [← HAK.out]; exact built_K)) ?_)
    | (refine atLoad 27 ?_; refine wpList_ldMid rfl 27 _ _ rfl Tryz.underlying27 rfl S5 0 rfl (scs s1) HIS.out.2.2.2.1 HR6.out.1 ?_; rw [HIS.out.2.2.2.2])
    | (go_at_call 25; refine HL2.out.mono ?_; rintro e x7 ⟨fp7, a7, c7, C, B, q1, rfl, q2, q3, q4⟩; have H7 : Box (Disk.Cx w x7 D fp7 (rdD d1 (pcs 0 4 s1.start s1.count)) ∧ Chs x7 B (.slice a7 1 c7) C ∧ (∀ k, fp7 k → k < B) ∧ C.map (fun c => c.M.map pl) = [[x3]]) := ⟨q1, q2, q3, q4⟩; clear q1 q2 q3 q4))
  clear HL2 HR6 H6 H5 H4 H3 H2 H1
  have HL3 : Box (Calls Tryz.prog 25 #[.pointer (some ⟨D, 0, none⟩), .agg AK, .int .i64 0, .int .i64 4, .agg SO] x7 fun e w' => e = .returned (.tuple #[.slice none 0 0, .int .i64 14]) ∧ Chs w' B (.slice a7 1 c7) C ∧ Below w.heap.size w w') := ⟨by
    have hq := HS1.out
    have hlo : (rdD d1 (pcs 0 4 s1.start s1.count)).ops.length < 900000 := by
      show (d1.ops ++ _).length < 900000
      have := HD0.out
      have := hq.2.2.2.2.2.2.1
      have := hq.2.2.1
      simp [pcs]
      omega
    have := load_v H7.out.1 k1 ⟨len_k1, byt_k1⟩ 0 4 s01 okS_s01 (by omega) (by omega) (by show 0 + 4 ≤ d1.n; rw [hq.2.2.2.2.2.1, HD0.out.2.1]; omega) (by show d1.n ≤ 4096; rw [hq.2.2.2.2.2.1, HD0.out.2.1]; omega) (by decide) hq.2.2.2.2.1.1 hlo (by show d1.uw.length < 900000; have := HD0.out; have := hq.2.2.2.2.2.2.2.1; omega) HT.out.1 HT.out.2
    rw [HAK.out, HSO.out] at this
    refine this.mono ?_
    rintro e w' ⟨fp', q1, q2, q3⟩
    rcases q3 with ⟨_, q3⟩ | ⟨q3, _⟩
    · refine ⟨q3, H7.out.2.1.same (fun k hk hl => q2.t.block k hl (fun hf => by have := H7.out.2.2.1 k hf; omega)) q2.t.size, q1.bel⟩
    · exact absurd q3 hq.2.2.2.2.2.2.2.2.2.2⟩
  go_upto_region 9 with (first
    | (refine atBuild 23 ?_; refine wpList_run rfl _ _ (exec_built 23 [(0, .const (.int .u8 1))] rfl [(0, .int .u8 1)] rfl AK (by rw [← HAK.out]; exact built_K)) ?_)
    | (refine atBuild 27 ?_; refine wpList_run rfl _ _ (exec_built 27 [(1, .const (.int .u64 1))] rfl [(1, .int .u64 1)] rfl SO (by rw [← HSO.out]; exact built_St01)) ?_)
    | (go_at_call 25; refine HL3.out.mono ?_; rintro e x8 ⟨rfl, q1, q2⟩; have H8 : Box (Chs x8 B (.slice a7 1 c7) C ∧ Below w.heap.size w x8) := ⟨q1, q2⟩; clear q1 q2))
  clear HL3
  obtain ⟨cx, hC⟩ : ∃ cx, C = [cx] := by
    have hl : C.length = 1 := by have := congrArg List.length H7.out.2.2.2; simpa using this
    match C, hl with
    | [c], _ => exact ⟨c, rfl⟩
  subst hC
  obtain ⟨m, hM⟩ : ∃ m, cx.M = [m] := by
    have h1 : cx.M.map pl = [x3] := by have := H7.out.2.2.2; simpa using this
    have hl : cx.M.length = 1 := by have := congrArg List.length h1; simpa using this
    match hq : cx.M, hl with
    | [c], _ => exact ⟨c, rfl⟩
  have hpm : pl m = x3 := by have := H7.out.2.2.2; rw [List.map_cons, List.map_nil, hM] at this; simpa using this
  obtain ⟨ca, cl, cc, CM⟩ := cx
  dsimp only at hM
  subst hM
  obtain ⟨hcl, ⟨cg, co, hcg, hcg2, rfl, hcr⟩, hcb⟩ := H8.out.1.im _ (List.mem_singleton.2 rfl)
  dsimp only at hcl hcr hcb
  obtain ⟨b7, o7, he7, hb7, hr7⟩ := own_tb (f := slc) (M := [⟨some ⟨cg, co, none⟩, cl, cc, [m]⟩]) (fun _ => rfl) H8.out.1.row rfl (by simp)
  simp only [List.length_cons, List.length_nil, Nat.zero_add] at hcl hcr
  subst hcl
  have c0 : x8.cell? ⟨b7, o7, none⟩ = some (.slice (some ⟨cg, co, none⟩) 1 cc) := by have := hr7 0 (by simp) 0 _ rfl; simpa using this
  have c1 : x8.cell? ⟨cg, co, none⟩ = some (.int .u64 3) := by
    have := hcr 0 (by omega) 0 _ rfl
    have e : m.blk = 3 := by have := congrArg Prod.fst hpm; exact this
    simpa [e] using this
  subst he7
  have HLT : Box (Calls Tryz.prog 35 #[.slice (some ⟨b7, o7, none⟩) 1 c7] x8 fun e w' => ∃ a' c', e = .returned (.slice a' 1 c') ∧ Below x8.heap.size x8 w') := ⟨by
    have hig : Igss x8 (some ⟨b7, o7, none⟩) [⟨some ⟨cg, co, none⟩, 1, cc, [m]⟩] := H8.out.1.igss (fun x hx => by
      simp only [List.mem_cons, List.not_mem_nil, or_false] at hx
      rw [hx]
      show 1 ≤ maxLen
      unfold maxLen
      omega)
    have hbl : m.bl = 160 := by
      have h1 := (hcb m (by simp)).byi.1.1
      have h2 : m.bs = z160 := by have := congrArg Prod.snd hpm; exact this
      rw [h2, len_z160] at h1
      exact h1.symm
    have := latest_v (some ⟨b7, o7, none⟩) c7 [⟨some ⟨cg, co, none⟩, 1, cc, [m]⟩] x8 hig (by simp) (fun c hc => by
      simp only [List.mem_cons, List.not_mem_nil, or_false] at hc
      rw [hc]
      show 1 ≤ 1000
      omega) (fun y hy => by
      simp only [allM, List.map_cons, List.map_nil, List.flatten_cons, List.flatten_nil, List.append_nil, List.mem_cons, List.not_mem_nil, or_false] at hy
      rw [hy, hbl]
      omega)
    refine this.mono ?_
    rintro e w' ⟨v, Y, rfl, q1, q2, q3⟩
    have hl : Y.length = 1 := by
      have := congrArg List.length q2
      simpa [allM, latP, insP] using this
    obtain ⟨a', c', rfl⟩ := own_form2 q1.row
    rw [hl]
    exact ⟨a', c', rfl, q3⟩⟩
  clear hr7 hcr hcb hpm hb7 hcg hcg2
  have HB8 : Box (Below w.heap.size w x8) := ⟨H8.out.2⟩
  clear H8 H7
  go_wp2_with (go_at_call 35; refine HLT.out.mono ?_; rintro e x9 ⟨a9, c9, rfl, q1⟩; have H9 : Box (Below x8.heap.size x8 x9) := ⟨q1⟩; clear q1)
  go_ret
  exact ⟨rfl, below_to HB8.out H9.out⟩
end Go.Proofs.YtjdcccdkddnkgaaGreatDoor
namespace Go.Proofs.YtjdcccdkddnkgaaGreatDoor
set_option maxRecDepth 100000
set_option linter.unusedVariables false
open Go.RowKit Plain
/-- An image in new memory. -/
structure ImB (w : World) (B g n : Nat) (Ls : List Value) (pl0 : Nat → List Int) : Prop where
  im : Disk.Im w g n Ls pl0
  lo : B ≤ g
  each : ∀ i (h : i < Ls.length) k, Ls[i].ownBlock = some k → B ≤ k
theorem ImB.same {w w' : World} {B g n : Nat} {Ls : List Value} {pl0 : Nat → List Int} (h : ImB w B g n Ls pl0) (hs : ∀ k, B ≤ k → k < w.heap.size → w'.heap[k]? = w.heap[k]?) : ImB w' B g n Ls pl0 :=
  ⟨⟨(hs g h.lo (Array.getElem?_eq_some_iff.1 h.im.row).1).trans h.im.row, h.im.len, fun i hi => own_same (h.im.each i hi) (fun k hk => hs k (h.each i hi k hk) ((h.im.each i hi).lt k hk).2), h.im.byt⟩, h.lo, h.each⟩
theorem image_b {w0 w : World} {D : Nat} {fp : Nat → Prop} {d : Disk.Dk} (C : Disk.Cx w0 w D fp d) :
    Calls Tryz.prog 31 #[.pointer (some ⟨D, 0, none⟩)] w fun e w' => ∃ g Ls, e = .returned (.slice (some ⟨g, 0, none⟩) d.n d.n) ∧ Below w.heap.size w w' ∧ ImB w' w.heap.size g d.n Ls d.pl := by
  obtain ⟨P, uv, ov, h1, _⟩ := C.is
  have hpl := h1.hpl
  refine (Disk.image_any w D P uv ov d h1).mono ?_
  rintro e w' ⟨g, L, rfl, h⟩
  have hrow := h.row
  rw [Nat.sub_self] at hrow
  have hnil : Disk.nils 0 = [] := rfl
  rw [hnil, List.append_nil] at hrow
  exact ⟨g, L, rfl, h.bel, ⟨hrow, h.len, fun i hi => (h.each i hi).1, hpl⟩, h.lo, fun i hi k hk => by have := (h.each i hi).2 k hk; have := h.lo; omega⟩
/-- A place's bytes in an image. -/
theorem ImB.at {w : World} {B g n : Nat} {Ls : List Value} {pl0 : Nat → List Int} (h : ImB w B g n Ls pl0) (q : Nat) (hq : q < n) : ∃ a c, w.cell? ⟨g, q, none⟩ = some (.slice a 192 c) ∧ Bytes w a 192 (pl0 q) := by
  have hq' : q < Ls.length := by rw [h.im.len]; exact hq
  have ho := h.im.each q hq'
  obtain ⟨a, c, hv⟩ := own_form2 ho
  rw [hv] at ho
  refine ⟨a, c, ?_, own_bytes ho (h.im.byt q).2⟩
  rw [cell_of_row _ _ _ _ _ _ h.im.row, List.getElem?_toArray, List.getElem?_eq_getElem hq', hv]
theorem restore_cx {w0 w : World} {D : Nat} {fp : Nat → Prop} {d : Disk.Dk} (C : Disk.Cx w0 w D fp d) {B g : Nat} (c : Nat) {Ls : List Value} {pl0 : Nat → List Int} (hI : ImB w B g d.n Ls pl0) :
    Calls Tryz.prog 32 #[.pointer (some ⟨D, 0, none⟩), .slice (some ⟨g, 0, none⟩) d.n c] w fun e w' => e = .returned (.int .i64 0) ∧ ∃ fp', Disk.Cx w0 w' D fp' { d with pl := Disk.rpl pl0 d.n d.pl, uw := [] } ∧ Disk.Fol w fp w' fp' := by
  obtain ⟨P, uv, ov, h1, h2⟩ := C.is
  refine (Disk.restore_ok w D P uv ov d h1 g c Ls pl0 hI.im).mono ?_
  rintro e w' ⟨rfl, q1, q2⟩
  refine ⟨rfl, C.nx (Disk.At.nx h2 q1 q2 (fun k hk => .inl ?_))⟩
  rcases hk with hk | hk | hk | hk
  · exact .inl hk
  · exact .inr (.inl hk)
  · cases hk
  · exact .inr (.inr (.inr hk))
theorem restore_nil_cx {w0 w : World} {D : Nat} {fp : Nat → Prop} {d : Disk.Dk} (C : Disk.Cx w0 w D fp d) (hn : 0 < d.n) : Calls Tryz.prog 32 #[.pointer (some ⟨D, 0, none⟩), .slice none 0 0] w fun e w' => e = .returned (.int .i64 1) ∧ w = w' := by
  obtain ⟨P, uv, ov, h1, _⟩ := C.is
  exact Disk.restore_few w D P uv ov d h1 none 0 0 (by omega) (by omega)
/-- Two versions of a place part. -/
theorem slt_ne (K : List Int) (p : Int) (x y : (Int × List Int) × Bool) (hx : RcOk x) (hy : RcOk y) : slt K p 1 x ≠ slt K p 2 y := fun e => by
  have h1 := Seal.sl_num K p 1 (putP x) 176 (len_putP x hx.1) (by omega) ⟨by omega, by omega⟩
  have h2 := Seal.sl_num K p 2 (putP y) 176 (len_putP y hy.1) (by omega) ⟨by omega, by omega⟩
  have e2 : Seal.sl K p 1 (putP x) = Seal.sl K p 2 (putP y) := e
  rw [e2, h2] at h1
  omega
end Go.Proofs.YtjdcccdkddnkgaaGreatDoor
namespace Go.Proofs.YtjdcccdkddnkgaaGreatDoor
set_option maxRecDepth 100000
set_option linter.unusedVariables false
open Go.RowKit Plain
def jr (K : List Int) (nx : Int) : Jt := ⟨K, 0, 3, zs, nx, 100⟩
theorem pl_fl (d : Disk.Dk) (j : Nat) : (Disk.flOk d).pl j = Disk.lat d j := by
  have : (Disk.flOk d).pl j = Disk.lay d.uw d.pl j := rfl
  rw [this, Disk.lay_get]
  rfl
/-- All that ReplayRolls meets. -/
structure Rl (K : List Int) (x1 x2 : Int × List Int) (d1 d2 d3 d4 : Disk.Dk) (s t : Jst) (T1 T2 : List Int) : Prop where
  ap1 : appM (jr K 1) (Disk.dk0 3) [x1] = (d1, 2, 0, s)
  fl1 : Disk.flOk d1 = d2
  ap2 : appM (jr K 2) d2 [x2] = (d3, 3, 0, t)
  fl2 : Disk.flOk d3 = d4
  up : Up d1 ∧ Up d2 ∧ Up d3 ∧ Up d4
  nn : d1.n = 3 ∧ d2.n = 3 ∧ d3.n = 3 ∧ d4.n = 3
  ops : d1.ops.length ≤ 9 ∧ d2.ops.length ≤ 9 ∧ d3.ops.length ≤ 9 ∧ d4.ops.length ≤ 9
  uw : d1.uw.length ≤ 9 ∧ d2.uw.length ≤ 9 ∧ d3.uw.length ≤ 9 ∧ d4.uw.length ≤ 9
  left : (0 ≤ d2.left ∧ d2.left ≤ 9223372036854775807)
  p1 : d2.pl 0 = T1
  p2 : d4.pl 0 = T2
  ne : T1 ≠ T2
  b1 : T1.length = 192 ∧ Byt T1
  b2 : T2.length = 192 ∧ Byt T2
  os : OkS s
  ot : OkS t
  ms : may 3 s = true
  mt : may 3 t = true
  cs : s.start = 0 ∧ s.count = 1 ∧ t.start = 0 ∧ t.count = 1
  gs : LGood { d4 with pl := Disk.rpl d2.pl 3 d4.pl, uw := [] } K 0 3 s
  gt : LGood { d4 with pl := Disk.rpl d2.pl 3 d4.pl, uw := [] } K 0 3 t → lnk z32 0 T1 = lnk z32 0 T2
  ct : ldC { d4 with pl := Disk.rpl d2.pl 3 d4.pl, uw := [] } K 0 3 t = [[x1]]
theorem chn_one (p : Nat) (T : List Int) : chn [(p, T)] = lnk z32 (p : Int) T := by
  unfold chn
  generalize lnk = f
  simp only [List.foldl_cons, List.foldl_nil]
theorem ap_jr (K : List Int) (n : Int) (d : Disk.Dk) (x : Int × List Int) (T : List Int) (hT : slt K ((0 : Nat) : Int) n (x, true) = T) (hx : x.2.length = 160) (hn : n + 1 ≤ 100) (hd : d.down = false) (hs : d.st = false) : appM (jr K n) d [x] = (Disk.wrOk d 0 T, n + 1, 0, ⟨0, 1, lnk z32 ((0 : Nat) : Int) T⟩) := by
  have e := ap_one (jr K n) d x hx (by show 0 + 1 ≤ 3; omega) hn hd hs
  have q : plc (jr K n) ((jr K n).st.start + (jr K n).st.count) = 0 := rfl
  have qk : (jr K n).key = K := rfl
  have qn : (jr K n).nx = n := rfl
  have qs : (jr K n).st = ⟨0, 0, z32⟩ := rfl
  rw [q, qk, qn, hT, qs] at e
  rw [e]
  unfold nxS
  generalize lnk = f
  rfl
theorem rl_p (d : Disk.Dk) (T : List Int) : (Disk.flOk (Disk.wrOk d 0 T)).pl 0 = T := by rw [pl_fl, Disk.lat_wr, if_pos rfl]
theorem rl_lat (d : Disk.Dk) (a b : Nat → List Int) (hp : d.pl = Disk.rpl a 3 b) (hu : d.uw = []) : Disk.lat d 0 = a 0 := by
  unfold Disk.lat
  rw [hu, hp]
  rfl
theorem rl_pcs : pcs 0 3 0 1 = [0] := by decide
theorem rl_lds (d : Disk.Dk) (tg T : List Int) (h : Disk.lat d 0 = T) : lds d 0 3 ⟨0, 1, tg⟩ = [(0, T)] := by
  unfold lds
  rw [rl_pcs, List.map_cons, List.map_nil, h]
theorem rl_last (x : Int × List Int) : lastOk [(x, true)] := fun h0 => by simp
theorem rl_cs (x : Int × List Int) : (chS [(x, true)]).1 = [[x]] := by simp [chS, chSt]
theorem rl_good (K : List Int) (x1 : Int × List Int) (T1 : List Int) (o1 : Opn K (0, T1)) (hm : [(0, T1)].map (opR K) = [(x1, true)]) : Good K [(0, T1)] := by
  unfold Good
  rw [hm]
  refine ⟨fun x hx => ?_, rl_last x1⟩
  rw [List.mem_singleton] at hx
  rw [hx]
  exact o1
theorem rl_os (L : List Int) (h : L.length = 32 ∧ Byt L) : OkS ⟨0, 1, L⟩ := ⟨h.1, h.2, by show 0 ≤ _; omega, by show 1 ≤ _; omega⟩
theorem rl_may (L : List Int) : may 3 ⟨0, 1, L⟩ = true := by simp [may]
theorem rl_ops (T1 T2 : List Int) : (Disk.wrOk (Disk.dk0 3) 0 T1).ops.length ≤ 9 ∧ (Disk.flOk (Disk.wrOk (Disk.dk0 3) 0 T1)).ops.length ≤ 9 ∧ (Disk.wrOk (Disk.flOk (Disk.wrOk (Disk.dk0 3) 0 T1)) 0 T2).ops.length ≤ 9 ∧ (Disk.flOk (Disk.wrOk (Disk.flOk (Disk.wrOk (Disk.dk0 3) 0 T1)) 0 T2)).ops.length ≤ 9 := ⟨by simp [Disk.wrOk, Disk.dk0], by simp [Disk.wrOk, Disk.dk0, Disk.flOk], by simp [Disk.wrOk, Disk.dk0, Disk.flOk], by simp [Disk.wrOk, Disk.dk0, Disk.flOk]⟩
theorem rl_uw (T1 T2 : List Int) : (Disk.wrOk (Disk.dk0 3) 0 T1).uw.length ≤ 9 ∧ (Disk.flOk (Disk.wrOk (Disk.dk0 3) 0 T1)).uw.length ≤ 9 ∧ (Disk.wrOk (Disk.flOk (Disk.wrOk (Disk.dk0 3) 0 T1)) 0 T2).uw.length ≤ 9 ∧ (Disk.flOk (Disk.wrOk (Disk.flOk (Disk.wrOk (Disk.dk0 3) 0 T1)) 0 T2)).uw.length ≤ 9 := ⟨by simp [Disk.wrOk, Disk.dk0], by simp [Disk.flOk], by simp [Disk.wrOk, Disk.flOk], by simp [Disk.flOk]⟩
theorem rl_left (T1 : List Int) : 0 ≤ (Disk.flOk (Disk.wrOk (Disk.dk0 3) 0 T1)).left ∧ (Disk.flOk (Disk.wrOk (Disk.dk0 3) 0 T1)).left ≤ 9223372036854775807 := by simp [Disk.wrOk, Disk.dk0, Disk.flOk]
theorem rl_hm (K : List Int) (x1 : Int × List Int) (T1 : List Int) (o2 : opR K (0, T1) = (x1, true)) : [(0, T1)].map (opR K) = [(x1, true)] := by
  revert o2
  generalize opR K = f
  intro o2
  rw [List.map_cons, List.map_nil, o2]
theorem rl_g1 (d : Disk.Dk) (K T1 L1 : List Int) (h : lds d 0 3 ⟨0, 1, L1⟩ = [(0, T1)]) (hch : chn [(0, T1)] = L1) (hg : Good K [(0, T1)]) : LGood d K 0 3 ⟨0, 1, L1⟩ := by
  unfold LGood
  rw [h]
  exact ⟨hch, hg⟩
theorem rl_g2 (d : Disk.Dk) (K T1 L1 L2 : List Int) (h : lds d 0 3 ⟨0, 1, L2⟩ = [(0, T1)]) (hch : chn [(0, T1)] = L1) (hg : LGood d K 0 3 ⟨0, 1, L2⟩) : L1 = L2 := by
  unfold LGood at hg
  rw [h, hch] at hg
  exact hg.1
theorem ldC_eq (d : Disk.Dk) (K : List Int) (f n : Nat) (s : Jst) (X : List ((Int × List Int) × Bool)) (h : (lds d f n s).map (opR K) = X) : ldC d K f n s = (chS X).1 := by
  unfold ldC
  rw [h]
theorem rl_g3 (d : Disk.Dk) (K T1 L2 : List Int) (x1 : Int × List Int) (h : lds d 0 3 ⟨0, 1, L2⟩ = [(0, T1)]) (hm : [(0, T1)].map (opR K) = [(x1, true)]) : ldC d K 0 3 ⟨0, 1, L2⟩ = [[x1]] := by
  have e : (lds d 0 3 ⟨0, 1, L2⟩).map (opR K) = [(x1, true)] := (congrArg (List.map (opR K)) h).trans hm
  exact (ldC_eq d K 0 3 _ _ e).trans (rl_cs x1)
theorem rl_mk (K : List Int) (x1 x2 : Int × List Int) (T1 T2 L1 L2 : List Int)
    (a1 : ∀ d : Disk.Dk, d.down = false → d.st = false → appM (jr K 1) d [x1] = (Disk.wrOk d 0 T1, 2, 0, ⟨0, 1, L1⟩))
    (a2 : ∀ d : Disk.Dk, d.down = false → d.st = false → appM (jr K 2) d [x2] = (Disk.wrOk d 0 T2, 3, 0, ⟨0, 1, L2⟩))
    (o1 : Opn K (0, T1)) (o2 : opR K (0, T1) = (x1, true)) (hne : T1 ≠ T2) (b1 : T1.length = 192 ∧ Byt T1) (b2 : T2.length = 192 ∧ Byt T2) (l1 : L1.length = 32 ∧ Byt L1) (l2 : L2.length = 32 ∧ Byt L2)
    (hch : chn [(0, T1)] = L1) (e1 : lnk z32 0 T1 = L1) (e2 : lnk z32 0 T2 = L2) : ∃ d1 d2 d3 d4 s t, Rl K x1 x2 d1 d2 d3 d4 s t T1 T2 := by
  have hm := rl_hm K x1 T1 o2
  have hgood := rl_good K x1 T1 o1 hm
  have hlds : ∀ (d : Disk.Dk) (tg : List Int), d.pl = Disk.rpl (Disk.flOk (Disk.wrOk (Disk.dk0 3) 0 T1)).pl 3 (Disk.flOk (Disk.wrOk (Disk.flOk (Disk.wrOk (Disk.dk0 3) 0 T1)) 0 T2)).pl → d.uw = [] → lds d 0 3 ⟨0, 1, tg⟩ = [(0, T1)] := fun d tg hp hu => rl_lds d tg T1 ((rl_lat d _ _ hp hu).trans (rl_p _ T1))
  exact ⟨Disk.wrOk (Disk.dk0 3) 0 T1, Disk.flOk (Disk.wrOk (Disk.dk0 3) 0 T1), Disk.wrOk (Disk.flOk (Disk.wrOk (Disk.dk0 3) 0 T1)) 0 T2, Disk.flOk (Disk.wrOk (Disk.flOk (Disk.wrOk (Disk.dk0 3) 0 T1)) 0 T2), ⟨0, 1, L1⟩, ⟨0, 1, L2⟩, {
    ap1 := a1 _ rfl rfl
    fl1 := rfl
    ap2 := a2 _ rfl rfl
    fl2 := rfl
    up := ⟨⟨rfl, rfl⟩, ⟨rfl, rfl⟩, ⟨rfl, rfl⟩, ⟨rfl, rfl⟩⟩
    nn := ⟨rfl, rfl, rfl, rfl⟩
    ops := rl_ops T1 T2
    uw := rl_uw T1 T2
    left := rl_left T1
    p1 := rl_p _ T1
    p2 := rl_p _ T2
    ne := hne
    b1 := b1
    b2 := b2
    os := rl_os L1 l1
    ot := rl_os L2 l2
    ms := rl_may L1
    mt := rl_may L2
    cs := ⟨rfl, rfl, rfl, rfl⟩
    gs := rl_g1 _ K T1 L1 (hlds _ L1 rfl rfl) hch hgood
    gt := fun h => e1.trans ((rl_g2 _ K T1 L1 L2 (hlds _ L2 rfl rfl) hch h).trans e2.symm)
    ct := rl_g3 _ K T1 L2 x1 (hlds _ L2 rfl rfl) hm }⟩
theorem lnk_z (T : List Int) : lnk z32 ((0 : Nat) : Int) T = lnk z32 0 T := by rw [show ((0 : Nat) : Int) = 0 from rfl]
theorem lnk_b (t : List Int) (p : Int) (T : List Int) : (lnk t p T).length = 32 ∧ Byt (lnk t p T) := by
  unfold lnk
  exact ⟨length_dsha _, byt_dsha _⟩
theorem rl_ex (K : List Int) (hK : K.length = 32 ∧ Byt K) (x1 x2 : Int × List Int) (h1 : x1.2.length = 160 ∧ Byt x1.2 ∧ N64 x1.1) (h2 : x2.2.length = 160 ∧ Byt x2.2 ∧ N64 x2.1) : ∃ d1 d2 d3 d4 s t T1 T2, Rl K x1 x2 d1 d2 d3 d4 s t T1 T2 := by
  have r1 : RcOk (x1, true) := h1
  have r2 : RcOk (x2, true) := h2
  have hne := slt_ne K ((0 : Nat) : Int) (x1, true) (x2, true) r1 r2
  have c1 : (slt K ((0 : Nat) : Int) 1 (x1, true)).length = 192 ∧ Byt (slt K ((0 : Nat) : Int) 1 (x1, true)) := ⟨length_slt _ _ _ _, byt_slt _ _ _ _⟩
  have c2 : (slt K ((0 : Nat) : Int) 2 (x2, true)).length = 192 ∧ Byt (slt K ((0 : Nat) : Int) 2 (x2, true)) := ⟨length_slt _ _ _ _, byt_slt _ _ _ _⟩
  obtain ⟨o1, o2⟩ := opn_slt K 0 1 (x1, true) r1 ⟨by omega, by omega⟩
  obtain ⟨T1, hT1⟩ : ∃ T, slt K ((0 : Nat) : Int) 1 (x1, true) = T := ⟨_, rfl⟩
  obtain ⟨T2, hT2⟩ : ∃ T, slt K ((0 : Nat) : Int) 2 (x2, true) = T := ⟨_, rfl⟩
  have a1 := fun d hd hs => ap_jr K 1 d x1 T1 hT1 h1.1 (by decide) hd hs
  have a2 := fun d hd hs => ap_jr K 2 d x2 T2 hT2 h2.1 (by decide) hd hs
  rw [hT1] at o1 o2 c1 hne
  rw [hT2] at c2 hne
  have hch := chn_one 0 T1
  rw [lnk_z] at hch
  simp only [lnk_z] at a1 a2
  have l1 := lnk_b z32 0 T1
  have l2 := lnk_b z32 0 T2
  obtain ⟨L1, hL1⟩ : ∃ L, lnk z32 0 T1 = L := ⟨_, rfl⟩
  obtain ⟨L2, hL2⟩ : ∃ L, lnk z32 0 T2 = L := ⟨_, rfl⟩
  rw [hL1] at l1 hch
  rw [hL2] at l2
  simp only [hL1] at a1
  simp only [hL2] at a2
  obtain ⟨d1, d2, d3, d4, s, t, h⟩ := rl_mk K x1 x2 T1 T2 L1 L2 a1 a2 o1 o2 hne c1 c2 l1 l2 hch hL1 hL2
  exact ⟨d1, d2, d3, d4, s, t, T1, T2, h⟩
theorem imslice (g c : Nat) (hc : 2 ≤ c) : (∀ x, (Instr.sliceAt 47 (.slice (some ⟨g, 0, none⟩) 2 c) none (some (.int .i64 1)) none).run Tryz.prog x = .ok (.slice (some ⟨g, 0, none⟩) 1 c) x) ∧ ∀ x, (Instr.sliceAt 47 (.slice (some ⟨g, 0, none⟩) 2 c) (some (.int .i64 1)) none none).run Tryz.prog x = .ok (.slice (some ⟨g, 2, none⟩) 1 (c - 1)) x := by
  have hu : Tryz.prog.underlying 47 = some (.slice (Tryz.prog.elem 47)) := by kernel_rfl
  refine ⟨fun x => ?_, fun x => ?_⟩
  · have hs : (sizeOf (Tryz.prog.elem 47)).run Tryz.prog x = .ok 2 x := by kernel_rfl
    rw [run_sliceAt_slice (P := Tryz.prog) x 47 _ _ _ _ hu, run_slice_h (P := Tryz.prog) x 47 _ 2 c hu .i64 1 (by omega) (by omega), hs, Result.andThen_ok, sliced]
    have : ¬ c = 0 := by omega
    simp [this, Addr.add_mid]
  · have hs : (sizeOf (Tryz.prog.elem 47)).run Tryz.prog x = .ok 2 x := by kernel_rfl
    rw [run_sliceAt_slice (P := Tryz.prog) x 47 _ _ _ _ hu, run_slice_l (P := Tryz.prog) x 47 _ 2 c hu .i64 1 (by omega) (by omega), hs, Result.andThen_ok, sliced]
    have : ¬ c = 1 := by omega
    simp [this, Addr.add_mid]
end Go.Proofs.YtjdcccdkddnkgaaGreatDoor
