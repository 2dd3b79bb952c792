/-
  ReplayRolls: an older image of the disk is refused by a newer state, or two rows of bytes that have one digest are shown.
-/
import Derived.Test.YtjdcccdkddnkgaaGreatDoorQ40
import Derived.Test.YtjdcccdkddnkgaaGreatDoorQ41
import Derived.Test.YtjdcccdkddnkgaaGreatDoorQ32
namespace Go.Proofs.YtjdcccdkddnkgaaGreatDoor
set_option maxRecDepth 100000
set_option linter.unusedVariables false
set_option maxRecDepth 100000
open Go.RowKit Plain
attribute [local go_sem] Oper.semAt_some
theorem img_ok2 {w w' : World} {M : List Im} {v : Value} {X : List Im} (h : Ig w w' false M M.length v X) : ∀ m ∈ X, (m.bs.length = 160 ∧ Byt m.bs ∧ N64 m.blk) ∧ m.bl = 160 := by
  intro m hm
  have o := h.im.byt m hm
  have hx2 : pl m ∈ X.map pl := List.mem_map_of_mem hm
  rw [h.pls, List.take_of_length_le (by simp [len_imgP])] at hx2
  obtain ⟨i, hi, e⟩ := List.getElem_of_mem hx2
  rw [len_imgP] at hi
  rw [get_imgP false (M.map pl) i hi] at e
  have hl : m.bs.length = 160 := by
    have e2 : m.bs = (pl m).2 := rfl
    rw [e2, ← e]
    simp only [length_padTo]
    unfold szP
    rw [if_neg (by simp)]
  exact ⟨⟨hl, o.byt, o.num⟩, by rw [← o.byi.1.1]; exact hl⟩
theorem imgs_two {w : World} {g : Nat} {i1 i2 : Im} (h : Imgs w (some ⟨g, 0, none⟩) [i1, i2]) : Imgs w (some ⟨g, 0, none⟩) [i1] ∧ Imgs w (some ⟨g, 2, none⟩) [i2] := by
  obtain ⟨b, o, e, hlt, hr⟩ := h.tb (by simp)
  cases e
  refine ⟨⟨fun _ => ⟨g, 0, rfl, hlt, fun i hi => ?_⟩, fun m hm => h.byt m (by simp at hm; simp [hm])⟩, ⟨fun _ => ⟨g, 2, rfl, hlt, fun i hi => ?_⟩, fun m hm => h.byt m (by simp at hm; simp [hm])⟩⟩
  · have hi0 : i = 0 := by simpa using hi
    subst hi0
    exact hr 0 (by simp)
  · have hi0 : i = 0 := by simpa using hi
    subst hi0
    exact hr 1 (by simp)
theorem OImgs.fw {w w' : World} {B J : Nat} {v : Value} {M : List Im} {fp fp' : Nat → Prop} (h : OImgs w B v M) (hB : ∀ k, fp k → k < B) (hJ : J < B) (hf : Fw (fun k => k = J) w w' fp fp') : OImgs w' B v M :=
  ⟨own_same h.row (fun k hk => hf.block (h.row.lt k hk).2 (fun e => by have := hB k e; have := (own_blk h.row k hk).1; omega) (by have := (own_blk h.row k hk).1; omega)), fun m hm => ⟨own_same (h.byt m hm).own (fun k hk => hf.block ((h.byt m hm).own.lt k hk).2 (fun e => by have := hB k e; have := (own_blk (h.byt m hm).own k hk).1; omega) (by have := (own_blk (h.byt m hm).own k hk).1; omega)), (h.byt m hm).byt, (h.byt m hm).num⟩⟩
theorem ImB.fw {w w' : World} {B J g n : Nat} {Ls : List Value} {pl0 : Nat → List Int} {fp fp' : Nat → Prop} (h : ImB w B g n Ls pl0) (hB : ∀ k, fp k → k < B) (hJ : J < B) (hf : Fw (fun k => k = J) w w' fp fp') : ImB w' B g n Ls pl0 :=
  h.same (fun k h1 h2 => hf.block h2 (fun e => by have := hB k e; omega) (by omega))
set_option maxHeartbeats 16000000 in
theorem replayRolls_core (K : List Int) (hK : K.length = 32 ∧ Byt K) (m1 m2 : Im) (w : World) (hT : Dig.Tabs w) (hT2 : Seal.Tab w) (h1 : Bytes w m1.ba m1.bl m1.bs ∧ N64 m1.blk ∧ m1.bl ≤ m1.bc ∧ m1.bc ≤ maxLen) (h2 : Bytes w m2.ba m2.bl m2.bs ∧ N64 m2.blk ∧ m2.bl ≤ m2.bc ∧ m2.bc ≤ maxLen) :
    Calls Tryz.prog 4 #[.agg (u8s K), .agg (imc m1).toArray, .agg (imc m2).toArray] w fun e w' => e = .returned (.bool true) ∧ Below w.heap.size w w' := by
  obtain ⟨S, hS⟩ : ∃ S, w.heap.size = S := ⟨_, rfl⟩
  obtain ⟨AK, hAK⟩ : ∃ A, u8s K = A := ⟨_, rfl⟩
  have HM : Box (∀ x, Below w.heap.size w x → ∀ m ∈ [m1, m2], Bytes x m.ba m.bl m.bs ∧ N64 m.blk ∧ m.bl ≤ m.bc ∧ m.bc ≤ maxLen) := ⟨fun x hx m hm => by
    simp only [List.mem_cons, List.not_mem_nil, or_false] at hm
    rcases hm with rfl | rfl
    · exact ⟨h1.1.below hx, h1.2⟩
    · exact ⟨h2.1.below hx, h2.2⟩⟩
  obtain ⟨b1, ba1, bl1, bc1, bs1⟩ := m1
  obtain ⟨b2, ba2, bl2, bc2, bs2⟩ := m2
  simp only [imc, hAK]
  obtain ⟨w1, hw1⟩ : ∃ w1, ((w.alloc (.cells AK 23)).alloc (.cells #[.int .u64 b1, .slice ba1 bl1 bc1] 76)).alloc (.cells #[.int .u64 b2, .slice ba2 bl2 bc2] 76) = w1 := ⟨_, rfl⟩
  have hb1 : Below w.heap.size w w1 := by rw [← hw1]; exact (((Below.refl _ _).alloc (Nat.le_refl _) _).alloc (by simp) _).alloc (by simp; omega) _
  have k1 : w1.heap[S]? = some (.cells (u8s K) 23 (0, 0)) := by rw [← hw1, hAK]; exact al_old (al_old (al_at hS))
  have k2 : w1.heap[S + 1]? = some (.cells #[.int .u64 b1, .slice ba1 bl1 bc1] 76 (0, 0)) := by rw [← hw1]; exact al_old (al_at (by simp [hS]))
  have k3 : w1.heap[S + 2]? = some (.cells #[.int .u64 b2, .slice ba2 bl2 bc2] 76 (0, 0)) := by rw [← hw1]; exact al_at (by simp [hS])
  have hs1 : w1.heap.size = S + 3 := by rw [← hw1]; simp [hS]
  have hs2 : (w.alloc (.cells AK 23)).heap.size = S + 1 := by simp [hS]
  have hs3 : ((w.alloc (.cells AK 23)).alloc (.cells #[.int .u64 b1, .slice ba1 bl1 bc1] 76)).heap.size = S + 2 := by simp [hS]
  have HA : Box (Calls Tryz.prog 6 #[] w1 fun e w' => e = .returned (.bool true) ∧ Below w1.heap.size w1 w') := ⟨awake14_v w1 (hT.below hb1) (hT2.below hb1)⟩
  have H0 : Box (Below w.heap.size w w1 ∧ w1.heap[S]? = some (.cells (u8s K) 23 (0, 0)) ∧ w1.heap[S + 1]? = some (.cells #[.int .u64 b1, .slice ba1 bl1 bc1] 76 (0, 0)) ∧ w1.heap[S + 2]? = some (.cells #[.int .u64 b2, .slice ba2 bl2 bc2] 76 (0, 0)) ∧ w1.heap.size = S + 3 ∧ w.heap.size = S) := ⟨hb1, k1, k2, k3, hs1, hS⟩
  have HTT : Box (Dig.Tabs w ∧ Seal.Tab w) := ⟨hT, hT2⟩
  have HKU : Box ((Tryz.prog.info? 23).map (·.size) = some (K.map (Value.int .u8)).length ∧ (K.map (Value.int .u8)).toArray = AK ∧ u8s K = AK ∧ K.length = 32 ∧ Byt K) := ⟨by rw [List.length_map, hK.1]; exact infoSum, by rw [← hAK]; rfl, hAK, hK⟩
  clear hT hT2 hb1 hAK k1 k2 k3 hs1 hS hK h1 h2
  go_enter Tryz.func4, Tryz.ntmps4
  go_upto_region 1 with fail
  (try rw [hs3])
  (try rw [hs2])
  (try simp only [H0.out.2.2.2.2.2])
  (try rw [hw1])
  clear hw1 hs2 hs3
  go_upto_region 4 with (go_at_call 6; refine HA.out.mono ?_; rintro e x0 ⟨rfl, hb⟩; have HX0 : Box (Below w1.heap.size w1 x0) := ⟨hb⟩; clear hb)
  clear HA
  obtain ⟨D, hD⟩ : ∃ D, x0.heap.size + 1 = D := ⟨_, rfl⟩
  have HX : Box (Below w.heap.size w x0 ∧ x0.heap[S]? = some (.cells (u8s K) 23 (0, 0)) ∧ x0.heap[S + 1]? = some (.cells #[.int .u64 b1, .slice ba1 bl1 bc1] 76 (0, 0)) ∧ x0.heap[S + 2]? = some (.cells #[.int .u64 b2, .slice ba2 bl2 bc2] 76 (0, 0)) ∧ S + 3 ≤ x0.heap.size ∧ Dig.Tabs x0 ∧ Seal.Tab x0) := ⟨by
    have hb := below_to H0.out.1 HX0.out
    have hsz := H0.out.2.2.2.2.1
    have := HX0.out.size
    exact ⟨hb, (HX0.out.block S (by omega)).trans H0.out.2.1, (HX0.out.block (S + 1) (by omega)).trans H0.out.2.2.1, (HX0.out.block (S + 2) (by omega)).trans H0.out.2.2.2.1, by omega, HTT.out.1.below hb, HTT.out.2.below hb⟩⟩
  have HD : Box (Calls Tryz.prog 7 #[.int .i64 3] x0 fun e w' => e = .returned (.tuple #[.pointer (some ⟨D, 0, none⟩), .int .i64 0]) ∧ ∃ fp, Disk.Cx x0 w' D fp (Disk.dk0 3)) := ⟨by have := Disk.new_cx x0 3 ⟨by omega, by omega⟩; rw [hD] at this; exact this⟩
  obtain ⟨d0, hd0⟩ : ∃ d0, Disk.dk0 3 = d0 := ⟨_, rfl⟩
  rw [hd0] at HD
  have HD0 : Box (Disk.dk0 3 = d0 ∧ Up d0 ∧ d0.n = 3 ∧ d0.ops.length = 0 ∧ d0.uw.length = 0 ∧ (0 ≤ d0.left ∧ d0.left ≤ 9223372036854775807)) := ⟨hd0, by rw [← hd0]; exact ⟨⟨rfl, rfl⟩, rfl, rfl, rfl, by decide, by decide⟩⟩
  clear hD hd0
  go_upto_region 5 with (go_at_call 7; refine HD.out.mono ?_; rintro e x1 ⟨rfl, fp1, hc⟩; have H1 : Box (Disk.Cx x0 x1 D fp1 d0) := ⟨hc⟩; clear hc)
  obtain ⟨SZ, HSZ⟩ : ∃ A, Box (sa zs = A) := ⟨_, ⟨rfl⟩⟩
  have HJN : Box (Calls Tryz.prog 9 #[.pointer (some ⟨D, 0, none⟩), .agg AK, .int .i64 0, .int .i64 3, .agg SZ, .int .u64 1, .int .u64 100] x1 fun e w' => ∃ J, e = .returned (.tuple #[.pointer (some ⟨J, 0, none⟩), .int .i64 0]) ∧ JC x0 w' J D fp1 (jr K 1) d0 ∧ Below x1.heap.size x1 w' ∧ x1.heap.size ≤ J) := ⟨by
    have := jnew_ok H1.out K HKU.out.2.2.2 0 3 (by omega) (by rw [HD0.out.2.2.1]; omega) (by rw [HD0.out.2.2.1]; omega) zs okS_zs (by decide) 1 100 ⟨by omega, by omega⟩ ⟨by omega, by omega⟩ HX.out.2.2.2.2.2.1 HX.out.2.2.2.2.2.2
    rw [HKU.out.2.2.1, HSZ.out] at this
    exact this⟩
  have HR1 : Box (x1.rangeAt S 0 (K.map (Value.int .u8))) := ⟨range_u8 ((H1.out.bel.block S (by have := HX.out.2.2.2.2.1; omega)).trans HX.out.2.1)⟩
  clear HD
  go_upto_region 8 with (first
    | (refine atLoad 23 ?_; refine wpList_ldMid rfl 23 _ _ rfl Tryz.underlying23 rfl S 0 rfl (K.map (Value.int .u8)) HKU.out.1 HR1.out ?_; rw [HKU.out.2.1])
    | (refine atBuild 27 ?_; refine wpList_run rfl _ _ (exec_built 27 [] rfl [] rfl SZ (by rw [← HSZ.out]; exact built_St0)) ?_)
    | (go_at_call 9; refine HJN.out.mono ?_; rintro e x2 ⟨J, rfl, q1, q2, q3⟩; have H2 : Box (JC x0 x2 J D fp1 (jr K 1) d0) := ⟨q1⟩; clear q1 q2 q3))
  clear HJN HR1 HSZ
  obtain ⟨N0, hN0⟩ : ∃ N, x2.heap.size = N := ⟨_, rfl⟩
  obtain ⟨x3, hx3⟩ : ∃ x, x2.alloc (.cells #[.int .u64 b1, .slice ba1 bl1 bc1, .int .u64 b2, .slice ba2 bl2 bc2] 76) = x := ⟨_, rfl⟩
  have hb3 : Below x2.heap.size x2 x3 := by rw [← hx3]; exact (Below.refl _ _).alloc (Nat.le_refl _) _
  have HIM : Box (Calls Tryz.prog 11 #[.slice (some ⟨N0, 0, none⟩) 2 2, .bool false] x3 fun e w' => ∃ g c i1 i2, e = .returned (.slice (some ⟨g, 0, none⟩) 2 c) ∧ 2 ≤ c ∧ OImgs w' x3.heap.size (.slice (some ⟨g, 0, none⟩) 2 c) [i1, i2] ∧ (∀ m ∈ [i1, i2], (m.bs.length = 160 ∧ Byt m.bs ∧ N64 m.blk) ∧ m.bl = 160) ∧ Below x3.heap.size x3 w') := ⟨by
    have hr3 : x3.heap[N0]? = some (.cells (([⟨b1, ba1, bl1, bc1, bs1⟩, ⟨b2, ba2, bl2, bc2, bs2⟩] : List Im).map imc).flatten.toArray 76 (0, 0)) := by rw [← hx3]; exact al_at hN0
    have hbw3 : Below w.heap.size w x3 := below_to HX.out.1 (below_to H2.out.cx.bel hb3)
    have hI := imgs_of_row (M := [⟨b1, ba1, bl1, bc1, bs1⟩, ⟨b2, ba2, bl2, bc2, bs2⟩]) hr3 (HM.out x3 hbw3)
    refine (images_any (some ⟨N0, 0, none⟩) 2 [⟨b1, ba1, bl1, bc1, bs1⟩, ⟨b2, ba2, bl2, bc2, bs2⟩] false x3 hI (by simp)).mono ?_
    rintro e w' ⟨v, XI, rfl, hig⟩
    have hlX : XI.length = 2 := hig.len
    have hok := img_ok2 hig
    match XI, hlX with
    | [i1, i2], _ =>
      have hrow := hig.im.row
      rcases hrow.2 with ⟨_, h0⟩ | ⟨g, c, cur, rfl, _, _, hle, _⟩
      · simp at h0
      · exact ⟨g, c, i1, i2, rfl, hle, hig.im, hok, hig.bel⟩⟩
  have HRI : Box (x2.rangeAt (S + 1) 0 [.int .u64 b1, .slice ba1 bl1 bc1] ∧ x2.rangeAt (S + 2) 0 [.int .u64 b2, .slice ba2 bl2 bc2]) := ⟨by
    have hl := HX.out.2.2.2.2.1
    exact ⟨range_arr ((H2.out.cx.bel.block (S + 1) (by omega)).trans HX.out.2.2.1) _ (fun j v hv => by simpa using hv), range_arr ((H2.out.cx.bel.block (S + 2) (by omega)).trans HX.out.2.2.2.1) _ (fun j v hv => by simpa using hv)⟩⟩
  have HB3 : Box (Below x2.heap.size x2 x3) := ⟨hb3⟩
  clear hb3
  go_upto_region 9 with (first
    | (refine atLoad 76 ?_; refine wpList_ldMid rfl 76 _ _ rfl Tryz.underlying76 rfl (S + 1) 0 rfl [.int .u64 b1, .slice ba1 bl1 bc1] infoIm HRI.out.1 ?_)
    | (refine atLoad 76 ?_; refine wpList_ldMid rfl 76 _ _ rfl Tryz.underlying76 rfl (S + 2) 0 rfl [.int .u64 b2, .slice ba2 bl2 bc2] infoIm HRI.out.2 ?_)
    | (go_at_call 11; (try simp only [hN0, hx3]); refine HIM.out.mono ?_; rintro e x4 ⟨g, c, i1, i2, rfl, q1, q2, q3, q4⟩; have H4 : Box (2 ≤ c ∧ OImgs x4 x3.heap.size (.slice (some ⟨g, 0, none⟩) 2 c) [i1, i2] ∧ (∀ m ∈ [i1, i2], (m.bs.length = 160 ∧ Byt m.bs ∧ N64 m.blk) ∧ m.bl = 160) ∧ Below x3.heap.size x3 x4) := ⟨q1, q2, q3, q4⟩; clear q1 q2 q3 q4))
  clear HIM HRI hN0 hx3
  obtain ⟨d1, d2, d3, d4, s, t, T1, T2, hrl⟩ := rl_ex K HKU.out.2.2.2 (pl i1) (pl i2) (H4.out.2.2.1 i1 (by simp)).1 (H4.out.2.2.1 i2 (by simp)).1
  have HRL : Box (Rl K (pl i1) (pl i2) d1 d2 d3 d4 s t T1 T2) := ⟨hrl⟩
  have HJ4 : Box (JC x0 x4 J D fp1 (jr K 1) d0 ∧ (∀ k, fp1 k → k < x3.heap.size) ∧ J < x3.heap.size) := ⟨H2.out.below (below_to HB3.out H4.out.2.2.2), fun k hk => by have := H2.out.cx.hi k hk; have := HB3.out.size; omega, by have := H2.out.lt; have := HB3.out.size; omega⟩
  obtain ⟨SA, HSA⟩ : ∃ A, Box (sa s = A) := ⟨_, ⟨rfl⟩⟩
  obtain ⟨TA, HTA⟩ : ∃ A, Box (sa t = A) := ⟨_, ⟨rfl⟩⟩
  have HIS : Box ((Tryz.prog.info? 27).map (·.size) = some SA.size ∧ (sa zs).size = SA.size ∧ SA.all (·.oneCell') = true ∧ (Tryz.prog.info? 27).map (·.size) = some (scs s).length ∧ (scs s).toArray = SA) := ⟨by rw [← HSA.out, size_sa hrl.os]; exact infoSt, by rw [← HSA.out, size_sa hrl.os, size_sa okS_zs], by rw [← HSA.out]; exact all_sa s, by rw [len_scs hrl.os]; exact infoSt, by rw [← HSA.out]; rfl⟩
  have HIT : Box ((Tryz.prog.info? 27).map (·.size) = some TA.size ∧ (sa zs).size = TA.size ∧ TA.all (·.oneCell') = true ∧ (Tryz.prog.info? 27).map (·.size) = some (scs t).length ∧ (scs t).toArray = TA) := ⟨by rw [← HTA.out, size_sa hrl.ot]; exact infoSt, by rw [← HTA.out, size_sa hrl.ot, size_sa okS_zs], by rw [← HTA.out]; exact all_sa t, by rw [len_scs hrl.ot]; exact infoSt, by rw [← HTA.out]; rfl⟩
  obtain ⟨hsl1, hsl2⟩ := imslice g c H4.out.1
  have HS1 : Box (∀ x, (Instr.sliceAt 47 (.slice (some ⟨g, 0, none⟩) 2 c) none (some (.int .i64 1)) none).run Tryz.prog x = .ok (.slice (some ⟨g, 0, none⟩) 1 c) x) := ⟨hsl1⟩
  have HS2 : Box (∀ x, (Instr.sliceAt 47 (.slice (some ⟨g, 0, none⟩) 2 c) (some (.int .i64 1)) none none).run Tryz.prog x = .ok (.slice (some ⟨g, 2, none⟩) 1 (c - 1)) x) := ⟨hsl2⟩
  have HA1 : Box (Calls Tryz.prog 12 #[.pointer (some ⟨J, 0, none⟩), .slice (some ⟨g, 0, none⟩) 1 c] x4 fun e w' => e = .returned (.tuple #[.agg SA, .int .i64 0]) ∧ ∃ fp', JC x0 w' J D fp' (jr K 2) d1 ∧ Fw (fun k => k = J) x4 w' fp1 fp') := ⟨by
    have hi := (imgs_two (g := g) (OImgs.imgs (M := [i1, i2]) H4.out.2.1)).1
    have := append_v HJ4.out.1 (some ⟨g, 0, none⟩) c [i1] hi (by simp) (fun m hm => by rw [(H4.out.2.2.1 m (by simp at hm; simp [hm])).2]; omega) HD0.out.2.2.2.2.2 (by have := HD0.out; omega) (by have := HD0.out; omega)
    have e3 : appM (jr K 1) d0 ([i1].map pl) = (d1, 2, 0, s) := by rw [← HD0.out.1]; exact HRL.out.ap1
    rw [e3] at this
    refine this.mono ?_
    rintro e w' ⟨fp', q1, q2, q3⟩
    exact ⟨by rw [q1, HSA.out], fp', q2, q3⟩⟩
  clear hsl1 hsl2 hrl
  go_upto_region 10 with (first
    | (refine atSlice 47 ?_; refine wpList_run rfl _ _ (exec_slice 47 (.tmp 45) none (some (.const (.int .i64 1))) rfl _ (HS1.out _)) ?_)
    | (go_at_call 12; refine HA1.out.mono ?_; rintro e x5 ⟨rfl, fp5, q1, q2⟩; have H5 : Box (JC x0 x5 J D fp5 (jr K 2) d1 ∧ Fw (fun k => k = J) x4 x5 fp1 fp5) := ⟨q1, q2⟩; clear q1 q2)
    | (refine atAlloc _ ?_; refine wpList_run rfl _ _ (exec_alloc 27 rfl _ zeroSt) ?_)
    | (refine atStore _ ?_; refine wpList_newRow x5 (sa zs) SA HIS.out.1 HIS.out.2.1 HIS.out.2.2.1 rfl _ _ rfl rfl rfl rfl ?_; intro x6 h6 hb6; have H6 : Box (x6.heap[x5.heap.size]? = some (.cells SA 27 (0, 0)) ∧ Below x5.heap.size x5 x6) := ⟨h6, hb6⟩; clear h6 hb6))
  clear HA1 HS1
  obtain ⟨G1, hG1⟩ : ∃ G, x5.heap.size = G := ⟨_, rfl⟩
  (try simp only [hG1])
  have HG1 : Box (x5.heap.size = G1) := ⟨hG1⟩
  clear hG1
  have HFL : Box (Calls Tryz.prog 30 #[.pointer (some ⟨D, 0, none⟩)] x6 fun e w' => e = .returned (.int .i64 0) ∧ ∃ fp', JC x0 w' J D fp' (jr K 2) d2 ∧ Fw (fun k => k = J) x6 w' fp5 fp') := ⟨by
    have hj := H5.out.1.below H6.out.2
    refine (Disk.flush_cx hj.cx HRL.out.up.1.1 (by have := HRL.out.ops.1; omega) (by have := HRL.out.uw.1; omega)).mono ?_
    rintro e w' ⟨q1, fp', q2, q3⟩
    rw [HRL.out.fl1] at q2
    exact ⟨q1, fp', hj.fol q2 q3 (by rw [HRL.out.nn.2.1, HRL.out.nn.1]), Fw.of_fol q3 _⟩⟩
  go_upto_region 11 with (go_at_call 30; refine HFL.out.mono ?_; rintro e x7 ⟨rfl, fp7, q1, q2⟩; have H7 : Box (JC x0 x7 J D fp7 (jr K 2) d2 ∧ Fw (fun k => k = J) x6 x7 fp5 fp7) := ⟨q1, q2⟩; clear q1 q2)
  clear HFL
  have HIG : Box (Calls Tryz.prog 31 #[.pointer (some ⟨D, 0, none⟩)] x7 fun e w' => ∃ g1 L1, e = .returned (.slice (some ⟨g1, 0, none⟩) 3 3) ∧ Below x7.heap.size x7 w' ∧ ImB w' x7.heap.size g1 3 L1 d2.pl) := ⟨by
    have := image_b H7.out.1.cx
    rw [HRL.out.nn.2.1] at this
    exact this⟩
  go_upto_region 12 with (go_at_call 31; refine HIG.out.mono ?_; rintro e x8 ⟨g1, L1, rfl, q1, q2⟩; have H8 : Box (Below x7.heap.size x7 x8 ∧ ImB x8 x7.heap.size g1 3 L1 d2.pl ∧ JC x0 x8 J D fp7 (jr K 2) d2) := ⟨q1, q2, H7.out.1.below q1⟩; clear q1 q2)
  clear HIG
  have HRN : Box (Calls Tryz.prog 32 #[.pointer (some ⟨D, 0, none⟩), .slice none 0 0] x8 fun e w' => e = .returned (.int .i64 1) ∧ x8 = w') := ⟨restore_nil_cx H8.out.2.2.cx (by rw [HRL.out.nn.2.1]; omega)⟩
  have HA2 : Box (Calls Tryz.prog 12 #[.pointer (some ⟨J, 0, none⟩), .slice (some ⟨g, 2, none⟩) 1 (c - 1)] x8 fun e w' => e = .returned (.tuple #[.agg TA, .int .i64 0]) ∧ ∃ fp', JC x0 w' J D fp' (jr K 3) d3 ∧ Fw (fun k => k = J) x8 w' fp7 fp') := ⟨by
    have hf : Fw (fun k => k = J) x4 x8 fp1 fp7 := H5.out.2.trans ((Fw.below _ fp5 H6.out.2).trans (H7.out.2.trans (Fw.below _ fp7 H8.out.1)))
    have ho := H4.out.2.1.fw HJ4.out.2.1 HJ4.out.2.2 hf
    have hi := (imgs_two (g := g) (OImgs.imgs (M := [i1, i2]) ho)).2
    have := append_v H8.out.2.2 (some ⟨g, 2, none⟩) (c - 1) [i2] hi (by simp) (fun m hm => by rw [(H4.out.2.2.1 m (by simp at hm; simp [hm])).2]; omega) HRL.out.left (by have := HRL.out.ops.2.1; omega) (by have := HRL.out.uw.2.1; omega)
    have e3 : appM (jr K 2) d2 ([i2].map pl) = (d3, 3, 0, t) := HRL.out.ap2
    rw [e3] at this
    refine this.mono ?_
    rintro e w' ⟨fp', q1, q2, q3⟩
    exact ⟨by rw [q1, HTA.out], fp', q2, q3⟩⟩
  go_upto_region 14 with (first
    | (go_at_call 32; refine HRN.out.mono ?_; rintro e y8 ⟨rfl, rfl⟩; clear HRN)
    | (refine atSlice 47 ?_; refine wpList_run rfl _ _ (exec_slice 47 (.tmp 58) (some (.const (.int .i64 1))) none rfl _ (HS2.out _)) ?_)
    | (go_at_call 12; refine HA2.out.mono ?_; rintro e x9 ⟨rfl, fp9, q1, q2⟩; have H9 : Box (JC x0 x9 J D fp9 (jr K 3) d3 ∧ Fw (fun k => k = J) x8 x9 fp7 fp9) := ⟨q1, q2⟩; clear q1 q2)
    | (refine atAlloc _ ?_; refine wpList_run rfl _ _ (exec_alloc 27 rfl _ zeroSt) ?_)
    | (refine atStore _ ?_; refine wpList_newRow x9 (sa zs) TA HIT.out.1 HIT.out.2.1 HIT.out.2.2.1 rfl _ _ rfl rfl rfl rfl ?_; intro x10 h6 hb6; have H10 : Box (x10.heap[x9.heap.size]? = some (.cells TA 27 (0, 0)) ∧ Below x9.heap.size x9 x10) := ⟨h6, hb6⟩; clear h6 hb6))
  clear HA2 HS2
  obtain ⟨G2, hG2⟩ : ∃ G, x9.heap.size = G := ⟨_, rfl⟩
  (try simp only [hG2])
  have HG2 : Box (x9.heap.size = G2) := ⟨hG2⟩
  clear hG2
  have HFL : Box (Calls Tryz.prog 30 #[.pointer (some ⟨D, 0, none⟩)] x10 fun e w' => e = .returned (.int .i64 0) ∧ ∃ fp', JC x0 w' J D fp' (jr K 3) d4 ∧ Fw (fun k => k = J) x10 w' fp9 fp') := ⟨by
    have hj := H9.out.1.below H10.out.2
    refine (Disk.flush_cx hj.cx HRL.out.up.2.2.1.1 (by have := HRL.out.ops.2.2.1; omega) (by have := HRL.out.uw.2.2.1; omega)).mono ?_
    rintro e w' ⟨q1, fp', q2, q3⟩
    rw [HRL.out.fl2] at q2
    exact ⟨q1, fp', hj.fol q2 q3 (by rw [HRL.out.nn.2.2.2, HRL.out.nn.2.2.1]), Fw.of_fol q3 _⟩⟩
  go_upto_region 15 with (go_at_call 30; refine HFL.out.mono ?_; rintro e x11 ⟨rfl, fp11, q1, q2⟩; have H11 : Box (JC x0 x11 J D fp11 (jr K 3) d4 ∧ Fw (fun k => k = J) x10 x11 fp9 fp11) := ⟨q1, q2⟩; clear q1 q2)
  clear HFL
  have HIG : Box (Calls Tryz.prog 31 #[.pointer (some ⟨D, 0, none⟩)] x11 fun e w' => ∃ g1 L1, e = .returned (.slice (some ⟨g1, 0, none⟩) 3 3) ∧ Below x11.heap.size x11 w' ∧ ImB w' x11.heap.size g1 3 L1 d4.pl) := ⟨by
    have := image_b H11.out.1.cx
    rw [HRL.out.nn.2.2.2] at this
    exact this⟩
  go_upto_region 16 with (go_at_call 31; refine HIG.out.mono ?_; rintro e x12 ⟨g2, L2, rfl, q1, q2⟩; have H12 : Box (Below x11.heap.size x11 x12 ∧ ImB x12 x11.heap.size g2 3 L2 d4.pl ∧ JC x0 x12 J D fp11 (jr K 3) d4) := ⟨q1, q2, H11.out.1.below q1⟩; clear q1 q2)
  clear HIG
  obtain ⟨d5, HD5⟩ : ∃ d5, Box (({ d4 with pl := Disk.rpl d2.pl 3 d4.pl, uw := [] } : Disk.Dk) = d5 ∧ d5.n = 3 ∧ Up d5 ∧ d5.ops.length ≤ 9 ∧ d5.uw.length = 0) := ⟨_, ⟨rfl, HRL.out.nn.2.2.2, HRL.out.up.2.2.2, HRL.out.ops.2.2.2, rfl⟩⟩
  have HF8 : Box (Fw (fun k => k = J) x8 x12 fp7 fp11) := ⟨H9.out.2.trans ((Fw.below _ fp9 H10.out.2).trans (H11.out.2.trans (Fw.below _ fp11 H12.out.1)))⟩
  have HRS : Box (Calls Tryz.prog 32 #[.pointer (some ⟨D, 0, none⟩), .slice (some ⟨g1, 0, none⟩) 3 3] x12 fun e w' => e = .returned (.int .i64 0) ∧ ∃ fp', Disk.Cx x0 w' D fp' d5 ∧ Fw (fun k => k = J) x12 w' fp11 fp') := ⟨by
    have hi := H8.out.2.1.fw (fun k hk => H7.out.1.cx.hi k hk) H7.out.1.lt HF8.out
    have hn := HRL.out.nn.2.2.2
    rw [← hn] at hi
    have := restore_cx H12.out.2.2.cx 3 hi
    rw [hn] at this
    refine this.mono ?_
    rintro e w' ⟨q1, fp', q2, q3⟩
    have e5 := HD5.out.1
    rw [hn] at e5
    rw [e5] at q2
    exact ⟨q1, fp', q2, Fw.of_fol q3 _⟩⟩
  go_upto_region 17 with (go_at_call 32; refine HRS.out.mono ?_; rintro e x13 ⟨rfl, fp13, q1, q2⟩; have H13 : Box (Disk.Cx x0 x13 D fp13 d5 ∧ Fw (fun k => k = J) x12 x13 fp11 fp13) := ⟨q1, q2⟩; clear q1 q2)
  clear HRS
  have HF6 : Box (Fw (fun k => k = J) x6 x13 fp5 fp13) := ⟨H7.out.2.trans ((Fw.below _ fp7 H8.out.1).trans (HF8.out.trans H13.out.2))⟩
  have HF10 : Box (Fw (fun k => k = J) x10 x13 fp9 fp13) := ⟨H11.out.2.trans ((Fw.below _ fp11 H12.out.1).trans H13.out.2)⟩
  have HGG : Box (x13.heap[G1]? = some (.cells SA 27 (0, 0)) ∧ ¬ fp13 G1 ∧ x13.heap[G2]? = some (.cells TA 27 (0, 0)) ∧ ¬ fp13 G2) := ⟨by
    have e1 := H6.out.1
    have e2 := H10.out.1
    rw [HG1.out] at e1
    rw [HG2.out] at e2
    have l1 := (Array.getElem?_eq_some_iff.1 e1).1
    have l2 := (Array.getElem?_eq_some_iff.1 e2).1
    have n1 : ¬ fp5 G1 := fun h => by have := H5.out.1.cx.hi G1 h; have := HG1.out; omega
    have n2 : ¬ fp9 G2 := fun h => by have := H9.out.1.cx.hi G2 h; have := HG2.out; omega
    have j1 : G1 ≠ J := by have := H5.out.1.lt; have := HG1.out; omega
    have j2 : G2 ≠ J := by have := H9.out.1.lt; have := HG2.out; omega
    exact ⟨(HF6.out.block l1 n1 j1).trans e1, HF6.out.k G1 l1 n1, (HF10.out.block l2 n2 j2).trans e2, HF10.out.k G2 l2 n2⟩⟩
  have HST : Box (∀ (y : World) (G : Nat) (u : Jst) (A : Array Value), sa u = A → y.heap[G]? = some (.cells A 27 (0, 0)) → y.rangeAt G 0 (scs u)) := ⟨fun y G u A hA hy => by rw [← hA] at hy; exact range_sa hy⟩
  have HKR : Box (∀ y, Below x0.heap.size x0 y → y.rangeAt S 0 (K.map (Value.int .u8))) := ⟨fun y hy => range_u8 ((hy.block S (by have := HX.out.2.2.2.2.1; omega)).trans HX.out.2.1)⟩
  have HLD : Box (∀ (y : World) (fp : Nat → Prop) (dd : Disk.Dk) (u : Jst), Disk.Cx x0 y D fp dd → dd.n = 3 → dd.down = false → dd.ops.length ≤ 100 → dd.uw.length ≤ 100 → OkS u → may 3 u = true → Calls Tryz.prog 25 #[.pointer (some ⟨D, 0, none⟩), .agg AK, .int .i64 0, .int .i64 3, .agg (sa u)] y fun e w' => ∃ fp', Disk.Cx x0 w' D fp' (rdD dd (pcs 0 3 u.start u.count)) ∧ Disk.Fol y fp w' fp' ∧ ((¬ LGood dd K 0 3 u ∧ e = .returned (.tuple #[.slice none 0 0, .int .i64 14])) ∨ (LGood dd K 0 3 u ∧ ∃ a' c' l', e = .returned (.tuple #[.slice a' l' c', .int .i64 0]) ∧ l' = (ldC dd K 0 3 u).length))) := ⟨fun y fp dd u hc h1 h2 h3 h4 h5 h6 => by
    have := load_v hc K HKU.out.2.2.2 0 3 u h5 (by omega) (by omega) (by omega) (by omega) h6 h2 (by omega) (by omega) HX.out.2.2.2.2.2.1 HX.out.2.2.2.2.2.2
    rw [HKU.out.2.2.1] at this
    refine this.mono ?_
    rintro e w' ⟨fp', q1, q2, q3⟩
    refine ⟨fp', q1, q2, ?_⟩
    rcases q3 with q3 | ⟨q3, uu, C', B, q4, q5, q6, q7, q8⟩
    · exact .inl q3
    · obtain ⟨a', c', rfl⟩ := own_form2 q5.row
      exact .inr ⟨q3, a', c', C'.length, q4, by rw [← q8]; simp⟩⟩
  have HL1 : Box _ := ⟨HLD.out x13 fp13 d5 t H13.out.1 HD5.out.2.1 HD5.out.2.2.1.1 (by have := HD5.out.2.2.2.1; omega) (by have := HD5.out.2.2.2.2; omega) HRL.out.ot HRL.out.mt⟩
  rw [HTA.out] at HL1
  have HR13 : Box (x13.rangeAt S 0 (K.map (Value.int .u8)) ∧ x13.rangeAt G2 0 (scs t)) := ⟨HKR.out x13 H13.out.1.bel, HST.out x13 G2 t TA HTA.out HGG.out.2.2.1⟩
  have HL2 : Box (∀ (y : World) (fpy : Nat → Prop), Disk.Cx x0 y D fpy (rdD d5 (pcs 0 3 t.start t.count)) → Disk.Fol x13 fp13 y fpy → y.rangeAt S 0 (K.map (Value.int .u8)) ∧ y.rangeAt G1 0 (scs s) ∧ Calls Tryz.prog 25 #[.pointer (some ⟨D, 0, none⟩), .agg AK, .int .i64 0, .int .i64 3, .agg SA] y fun e w' => ∃ fp' a' c' l', e = .returned (.tuple #[.slice a' l' c', .int .i64 0]) ∧ Disk.Cx x0 w' D fp' (rdD (rdD d5 (pcs 0 3 t.start t.count)) (pcs 0 3 s.start s.count)) ∧ Fw (fun k => k = J) x13 w' fp13 fp') := ⟨fun y fpy hc hf => by
    have hops : (rdD d5 (pcs 0 3 t.start t.count)).ops.length ≤ 100 := by
      show (d5.ops ++ _).length ≤ 100
      have h1 := HD5.out.2.2.2.1
      have h2 := HRL.out.cs.2.2.2
      simp [pcs]
      omega
    refine ⟨HKR.out y hc.bel, HST.out y G1 s SA HSA.out ((hf.t.block G1 (Array.getElem?_eq_some_iff.1 HGG.out.1).1 HGG.out.2.1).trans HGG.out.1), ?_⟩
    have := HLD.out y fpy _ s hc HD5.out.2.1 HD5.out.2.2.1.1 hops (by show d5.uw.length ≤ 100; have := HD5.out.2.2.2.2; omega) HRL.out.os HRL.out.ms
    rw [HSA.out] at this
    refine this.mono ?_
    rintro e w' ⟨fp', q1, q2, q3⟩
    have hg : LGood (rdD d5 (pcs 0 3 t.start t.count)) K 0 3 s := by
      have := HRL.out.gs
      rw [HD5.out.1] at this
      exact this
    rcases q3 with ⟨q3, _⟩ | ⟨_, a', c', l', q4, _⟩
    · exact absurd hg q3
    · exact ⟨fp', a', c', l', q4, q1, Fw.of_fol (fol_trans hf q2) _⟩⟩
  by_cases hgd : LGood d5 K 0 3 t
  · have HL3 : Box (Calls Tryz.prog 25 #[.pointer (some ⟨D, 0, none⟩), .agg AK, .int .i64 0, .int .i64 3, .agg TA] x13 fun e w' => ∃ fp' a' c', Disk.Cx x0 w' D fp' (rdD d5 (pcs 0 3 t.start t.count)) ∧ Disk.Fol x13 fp13 w' fp' ∧ e = .returned (.tuple #[.slice a' 1 c', .int .i64 0])) := ⟨HL1.out.mono fun e w' ⟨fp', q1, q2, q3⟩ => by
      rcases q3 with ⟨q3, _⟩ | ⟨_, a', c', l', q4, q5⟩
      · exact absurd hgd q3
      · have hc := HRL.out.ct
        rw [HD5.out.1] at hc
        rw [hc] at q5
        exact ⟨fp', a', c', q1, q2, by rw [q4, q5]; rfl⟩⟩
    have HEQ : Box (lnk z32 0 T1 = lnk z32 0 T2) := ⟨HRL.out.gt (by rw [HD5.out.1]; exact hgd)⟩
    clear HL1 hgd
    go_upto_region 18 with (first
      | (refine atLoad 23 ?_; refine wpList_ldMid rfl 23 _ _ rfl Tryz.underlying23 rfl S 0 rfl (K.map (Value.int .u8)) HKU.out.1 HR13.out.1 ?_; rw [HKU.out.2.1])
      | (refine atLoad 27 ?_; refine wpList_ldMid rfl 27 _ _ rfl Tryz.underlying27 rfl G2 0 rfl (scs t) HIT.out.2.2.2.1 HR13.out.2 ?_; rw [HIT.out.2.2.2.2])
      | (go_at_call 25; refine HL3.out.mono ?_; rintro e x14 ⟨fp14, a14, c14, q1, q2, rfl⟩; have HL4 : Box _ := ⟨HL2.out x14 fp14 q1 q2⟩; clear q1 q2))
    clear HL3
    go_upto_region 23 with (first
      | (refine atLoad 23 ?_; refine wpList_ldMid rfl 23 _ _ rfl Tryz.underlying23 rfl S 0 rfl (K.map (Value.int .u8)) HKU.out.1 HL4.out.1 ?_; rw [HKU.out.2.1])
      | (refine atLoad 27 ?_; refine wpList_ldMid rfl 27 _ _ rfl Tryz.underlying27 rfl G1 0 rfl (scs s) HIS.out.2.2.2.1 HL4.out.2.1 ?_; rw [HIS.out.2.2.2.2])
      | (go_at_call 25; refine HL4.out.2.2.mono ?_; rintro e x15 ⟨fp15, a15, c15, l15, rfl, q1, q2⟩; have H15 : Box (Disk.Cx x0 x15 D fp15 (rdD (rdD d5 (pcs 0 3 t.start t.count)) (pcs 0 3 s.start s.count)) ∧ Fw (fun k => k = J) x13 x15 fp13 fp15) := ⟨q1, q2⟩; clear q1 q2))
    have hold := (H8.out.2.1.fw (fun k hk => H7.out.1.cx.hi k hk) H7.out.1.lt (HF8.out.trans (H13.out.2.trans H15.out.2)))
    have hnow := (H12.out.2.1.fw (fun k hk => H11.out.1.cx.hi k hk) H11.out.1.lt (H13.out.2.trans H15.out.2))
    obtain ⟨oa, oc, ho1, ho2⟩ := hold.at 0 (by omega)
    obtain ⟨na, nc, hn1, hn2⟩ := hnow.at 0 (by omega)
    rw [HRL.out.p1] at ho2
    rw [HRL.out.p2] at hn2
    have hg1l : g1 < x15.heap.size := (Array.getElem?_eq_some_iff.1 hold.im.row).1
    have hg2l : g2 < x15.heap.size := (Array.getElem?_eq_some_iff.1 hnow.im.row).1
    have HR : Box (∀ y, Below x15.heap.size x15 y → y.cell? ⟨g1, 0, none⟩ = some (.slice oa 192 oc) ∧ Bytes y oa 192 T1 ∧ y.cell? ⟨g2, 0, none⟩ = some (.slice na 192 nc) ∧ Bytes y na 192 T2) := ⟨fun y hy => ⟨(hy.cell hg1l).trans ho1, ho2.below hy, (hy.cell hg2l).trans hn1, hn2.below hy⟩⟩
    have HBY : Box (Byt T1 ∧ Byt T2) := ⟨HRL.out.b1.2, HRL.out.b2.2⟩
    have HNE : Box ((!decide (T1 = T2)) = true) := ⟨by have := HRL.out.ne; simp [this]⟩
    obtain ⟨AZ, HAZ⟩ : ∃ A, Box (u8s z32 = A) := ⟨_, ⟨rfl⟩⟩
    obtain ⟨LL, hLL⟩ : ∃ L, lnk z32 0 T1 = L := ⟨_, rfl⟩
    have HLL : Box (LL.length = 32 ∧ decide (LL = LL) = true) := ⟨by rw [← hLL]; exact length_dsha _, by simp⟩
    have HLK : Box (∀ y, Below x15.heap.size x15 y → (Calls Tryz.prog 33 #[.agg AZ, .int .u32 0, .string (strOfNums T1)] y fun e w' => e = .returned (.agg (u8s LL)) ∧ Below y.heap.size y w') ∧ Calls Tryz.prog 33 #[.agg AZ, .int .u32 0, .string (strOfNums T2)] y fun e w' => e = .returned (.agg (u8s LL)) ∧ Below y.heap.size y w') := ⟨fun y hy => by
      have r1 := rlink_any z32 0 T1 y len_z32 byt_z32 ⟨by omega, by omega⟩ HBY.out.1 (by rw [HRL.out.b1.1]; omega)
      have r2 := rlink_any z32 0 T2 y len_z32 byt_z32 ⟨by omega, by omega⟩ HBY.out.2 (by rw [HRL.out.b2.1]; omega)
      rw [HAZ.out] at r1 r2
      rw [hLL] at r1
      rw [← HEQ.out, hLL] at r2
      exact ⟨r1, r2⟩⟩
    have HFI : Box (Below w.heap.size w x15) := ⟨below_to HX.out.1 H15.out.1.bel⟩
    clear hold hnow ho1 ho2 hn1 hn2 hLL hg1l hg2l
    refine Seq.begin_any (by kernel_rfl) (fun wd hd => ?_)
    have hbd : Below x15.heap.size x15 wd := hd.mono (Nat.le_refl _)
    refine Seq.take_lat (i := 0) (v := ?_) rfl (by kernel_rfl) (by kernel_rfl) (by kernel_rfl) (fun _ _ _ h => h) (by rfl) ?_ ?_
    rotate_left
    · intro w' hLat; change Below _ _ _ at hLat; go_simp <;> with_reducible rfl
    try simp only [Act.put, List.setIfInBounds_toArray, List.set_cons_zero, List.set_cons_succ, List.getElem_toArray, List.getElem_cons_zero]
    refine Seq.take_lat (i := 1) (v := ?_) rfl (by kernel_rfl) (by kernel_rfl) (by kernel_rfl) (fun _ _ _ h => h) (by rfl) ?_ ?_
    rotate_left
    · intro w' hLat; change Below _ _ _ at hLat; go_simp <;> with_reducible rfl
    try simp only [Act.put, List.setIfInBounds_toArray, List.set_cons_zero, List.set_cons_succ, List.getElem_toArray, List.getElem_cons_zero, List.getElem_cons_succ]
    refine Seq.take_lat (i := 2) (v := ?_) rfl (by kernel_rfl) (by kernel_rfl) (by kernel_rfl) (fun _ _ _ h => h) (by rfl) ?_ ?_
    rotate_left
    · intro w' hLat; change Below _ _ _ at hLat; go_simp <;> with_reducible rfl
    try simp only [Act.put, List.setIfInBounds_toArray, List.set_cons_zero, List.set_cons_succ, List.getElem_toArray, List.getElem_cons_zero, List.getElem_cons_succ]
    refine Seq.take_lat (i := 3) (v := ?_) rfl (by kernel_rfl) (by kernel_rfl) (by kernel_rfl) (fun _ _ _ h => h) (by rfl) ?_ ?_
    rotate_left
    · intro w' hLat; change Below _ _ _ at hLat; go_simp <;> with_reducible rfl
    try simp only [Act.put, List.setIfInBounds_toArray, List.set_cons_zero, List.set_cons_succ, List.getElem_toArray, List.getElem_cons_zero, List.getElem_cons_succ]
    refine Seq.take_lat (i := 4) (v := ?_) rfl (by kernel_rfl) (by kernel_rfl) (by kernel_rfl) (fun _ _ _ h => h) (by rfl) ?_ ?_
    rotate_left
    · intro w' hLat; change Below _ _ _ at hLat; go_simp <;> with_reducible rfl
    try simp only [Act.put, List.setIfInBounds_toArray, List.set_cons_zero, List.set_cons_succ, List.getElem_toArray, List.getElem_cons_zero, List.getElem_cons_succ]
    refine Seq.take_lat (i := 5) (v := ?_) rfl (by kernel_rfl) (by kernel_rfl) (by kernel_rfl) (fun _ _ _ h => h) (by rfl) ?_ ?_
    rotate_left
    · intro w' hLat; change Below _ _ _ at hLat; go_simp <;> with_reducible rfl
    try simp only [Act.put, List.setIfInBounds_toArray, List.set_cons_zero, List.set_cons_succ, List.getElem_toArray, List.getElem_cons_zero, List.getElem_cons_succ]
    refine Seq.take_lat (i := 6) (v := ?_) rfl (by kernel_rfl) (by kernel_rfl) (by kernel_rfl) (fun _ _ _ h => h) (by rfl) ?_ ?_
    rotate_left
    · intro w' hLat; change Below _ _ _ at hLat; go_simp <;> with_reducible rfl
    try simp only [Act.put, List.setIfInBounds_toArray, List.set_cons_zero, List.set_cons_succ, List.getElem_toArray, List.getElem_cons_zero, List.getElem_cons_succ]
    refine Seq.take_lat (i := 7) (v := ?_) rfl (by kernel_rfl) (by kernel_rfl) (by kernel_rfl) (fun _ _ _ h => h) (by rfl) ?_ ?_
    rotate_left
    · intro w' hLat; change Below _ _ _ at hLat; go_simp <;> with_reducible rfl
    try simp only [Act.put, List.setIfInBounds_toArray, List.set_cons_zero, List.set_cons_succ, List.getElem_toArray, List.getElem_cons_zero, List.getElem_cons_succ]
    refine Seq.take_lat (i := 8) (v := ?_) rfl (by kernel_rfl) (by kernel_rfl) (by kernel_rfl) (fun _ _ _ h => h) (by rfl) ?_ ?_
    rotate_left
    · intro w' hLat; change Below _ _ _ at hLat; go_simp <;> with_reducible rfl
    try simp only [Act.put, List.setIfInBounds_toArray, List.set_cons_zero, List.set_cons_succ, List.getElem_toArray, List.getElem_cons_zero, List.getElem_cons_succ]
    refine Seq.take_lat (i := 9) (v := ?_) rfl (by kernel_rfl) (by kernel_rfl) (by kernel_rfl) (fun _ _ _ h => h) (by rfl) ?_ ?_
    rotate_left
    · intro w' hLat; change Below _ _ _ at hLat; go_simp <;> with_reducible rfl
    try simp only [Act.put, List.setIfInBounds_toArray, List.set_cons_zero, List.set_cons_succ, List.getElem_toArray, List.getElem_cons_zero, List.getElem_cons_succ]
    refine Seq.take_lat (i := 10) (v := .slice oa 192 oc) rfl (by kernel_rfl) (by kernel_rfl) (by kernel_rfl) (fun _ _ _ h => h) (by rfl) (fun w' hLat => exec_load1 57 _ _ rfl Tryz.underlying57 rfl ⟨g1, 0, none⟩ rfl _ (HR.out w' (below_to hbd hLat)).1) ?_
    try simp only [Act.put, List.setIfInBounds_toArray, List.set_cons_zero, List.set_cons_succ, List.getElem_toArray, List.getElem_cons_zero, List.getElem_cons_succ]
    refine Seq.take_lat (i := 11) (v := .string (strOfNums T1)) rfl (by kernel_rfl) (by kernel_rfl) (by kernel_rfl) (fun _ _ _ h => h) (by rfl) (fun w' hLat => exec_conv (.tmp 106) rfl rfl (HR.out w' (below_to hbd hLat)).2.1) ?_
    try simp only [Act.put, List.setIfInBounds_toArray, List.set_cons_zero, List.set_cons_succ, List.getElem_toArray, List.getElem_cons_zero, List.getElem_cons_succ]
    refine Seq.take_lat (i := 12) (v := ?_) rfl (by kernel_rfl) (by kernel_rfl) (by kernel_rfl) (fun _ _ _ h => h) (by rfl) ?_ ?_
    rotate_left
    · intro w' hLat; change Below _ _ _ at hLat; go_simp <;> with_reducible rfl
    try simp only [Act.put, List.setIfInBounds_toArray, List.set_cons_zero, List.set_cons_succ, List.getElem_toArray, List.getElem_cons_zero, List.getElem_cons_succ]
    refine Seq.take_lat (i := 13) (v := ?_) rfl (by kernel_rfl) (by kernel_rfl) (by kernel_rfl) (fun _ _ _ h => h) (by rfl) ?_ ?_
    rotate_left
    · intro w' hLat; change Below _ _ _ at hLat; go_simp <;> with_reducible rfl
    try simp only [Act.put, List.setIfInBounds_toArray, List.set_cons_zero, List.set_cons_succ, List.getElem_toArray, List.getElem_cons_zero, List.getElem_cons_succ]
    refine Seq.take_lat (i := 14) (v := .slice na 192 nc) rfl (by kernel_rfl) (by kernel_rfl) (by kernel_rfl) (fun _ _ _ h => h) (by rfl) (fun w' hLat => exec_load1 57 _ _ rfl Tryz.underlying57 rfl ⟨g2, 0, none⟩ rfl _ (HR.out w' (below_to hbd hLat)).2.2.1) ?_
    try simp only [Act.put, List.setIfInBounds_toArray, List.set_cons_zero, List.set_cons_succ, List.getElem_toArray, List.getElem_cons_zero, List.getElem_cons_succ]
    refine Seq.take_lat (i := 15) (v := .string (strOfNums T2)) rfl (by kernel_rfl) (by kernel_rfl) (by kernel_rfl) (fun _ _ _ h => h) (by rfl) (fun w' hLat => exec_conv (.tmp 110) rfl rfl (HR.out w' (below_to hbd hLat)).2.2.2) ?_
    try simp only [Act.put, List.setIfInBounds_toArray, List.set_cons_zero, List.set_cons_succ, List.getElem_toArray, List.getElem_cons_zero, List.getElem_cons_succ]
    refine Seq.take_lat (i := 16) (v := .bool true) rfl (by kernel_rfl) (by kernel_rfl) (by kernel_rfl) (fun _ _ _ h => h) (by rfl) (fun w' hLat => by rw [exec_strN (.tmp 107) (.tmp 111) _ rfl T1 T2 HBY.out.1 HBY.out.2 rfl rfl]; rw [HNE.out]) ?_
    try simp only [Act.put, List.setIfInBounds_toArray, List.set_cons_zero, List.set_cons_succ, List.getElem_toArray, List.getElem_cons_zero, List.getElem_cons_succ]
    refine Seq.take_lat (i := 17) (v := ?_) rfl (by kernel_rfl) (by kernel_rfl) (by kernel_rfl) (fun _ _ _ h => h) (by rfl) ?_ ?_
    rotate_left
    · intro w' hLat; change Below _ _ _ at hLat; go_simp <;> with_reducible rfl
    try simp only [Act.put, List.setIfInBounds_toArray, List.set_cons_zero, List.set_cons_succ, List.getElem_toArray, List.getElem_cons_zero, List.getElem_cons_succ]
    refine Seq.take_lat (i := 18) (v := ?_) rfl (by kernel_rfl) (by kernel_rfl) (by kernel_rfl) (fun _ _ _ h => h) (by rfl) ?_ ?_
    rotate_left
    · intro w' hLat; change Below _ _ _ at hLat; go_simp <;> with_reducible rfl
    try simp only [Act.put, List.setIfInBounds_toArray, List.set_cons_zero, List.set_cons_succ, List.getElem_toArray, List.getElem_cons_zero, List.getElem_cons_succ]
    refine Seq.take_lat (i := 19) (v := .agg AZ) rfl (by kernel_rfl) (by kernel_rfl) (by kernel_rfl) (fun _ _ _ h => h) (by rfl) (fun w' hLat => exec_built 23 [] rfl [] rfl AZ (by rw [← HAZ.out]; exact built_Z)) ?_
    try simp only [Act.put, List.setIfInBounds_toArray, List.set_cons_zero, List.set_cons_succ, List.getElem_toArray, List.getElem_cons_zero, List.getElem_cons_succ]
    refine Seq.take_lat (i := 20) (v := ?_) rfl (by kernel_rfl) (by kernel_rfl) (by kernel_rfl) (fun _ _ _ h => h) (by rfl) ?_ ?_
    rotate_left
    · intro w' hLat; change Below _ _ _ at hLat; go_simp <;> with_reducible rfl
    try simp only [Act.put, List.setIfInBounds_toArray, List.set_cons_zero, List.set_cons_succ, List.getElem_toArray, List.getElem_cons_zero, List.getElem_cons_succ]
    refine Seq.take_lat (i := 21) (v := ?_) rfl (by kernel_rfl) (by kernel_rfl) (by kernel_rfl) (fun _ _ _ h => h) (by rfl) ?_ ?_
    rotate_left
    · intro w' hLat; change Below _ _ _ at hLat; go_simp <;> with_reducible rfl
    try simp only [Act.put, List.setIfInBounds_toArray, List.set_cons_zero, List.set_cons_succ, List.getElem_toArray, List.getElem_cons_zero, List.getElem_cons_succ]
    refine Seq.take_lat (i := 22) (v := .slice oa 192 oc) rfl (by kernel_rfl) (by kernel_rfl) (by kernel_rfl) (fun _ _ _ h => h) (by rfl) (fun w' hLat => exec_load1 57 _ _ rfl Tryz.underlying57 rfl ⟨g1, 0, none⟩ rfl _ (HR.out w' (below_to hbd hLat)).1) ?_
    try simp only [Act.put, List.setIfInBounds_toArray, List.set_cons_zero, List.set_cons_succ, List.getElem_toArray, List.getElem_cons_zero, List.getElem_cons_succ]
    refine Seq.take_lat (i := 23) (v := .string (strOfNums T1)) rfl (by kernel_rfl) (by kernel_rfl) (by kernel_rfl) (fun _ _ _ h => h) (by rfl) (fun w' hLat => exec_conv (.tmp 118) rfl rfl (HR.out w' (below_to hbd hLat)).2.1) ?_
    try simp only [Act.put, List.setIfInBounds_toArray, List.set_cons_zero, List.set_cons_succ, List.getElem_toArray, List.getElem_cons_zero, List.getElem_cons_succ]
    refine Seq.take_lat (i := 25) (v := .agg AZ) rfl (by kernel_rfl) (by kernel_rfl) (by kernel_rfl) (fun _ _ _ h => h) (by rfl) (fun w' hLat => exec_built 23 [] rfl [] rfl AZ (by rw [← HAZ.out]; exact built_Z)) ?_
    try simp only [Act.put, List.setIfInBounds_toArray, List.set_cons_zero, List.set_cons_succ, List.getElem_toArray, List.getElem_cons_zero, List.getElem_cons_succ]
    refine Seq.take_lat (i := 26) (v := ?_) rfl (by kernel_rfl) (by kernel_rfl) (by kernel_rfl) (fun _ _ _ h => h) (by rfl) ?_ ?_
    rotate_left
    · intro w' hLat; change Below _ _ _ at hLat; go_simp <;> with_reducible rfl
    try simp only [Act.put, List.setIfInBounds_toArray, List.set_cons_zero, List.set_cons_succ, List.getElem_toArray, List.getElem_cons_zero, List.getElem_cons_succ]
    refine Seq.take_lat (i := 27) (v := ?_) rfl (by kernel_rfl) (by kernel_rfl) (by kernel_rfl) (fun _ _ _ h => h) (by rfl) ?_ ?_
    rotate_left
    · intro w' hLat; change Below _ _ _ at hLat; go_simp <;> with_reducible rfl
    try simp only [Act.put, List.setIfInBounds_toArray, List.set_cons_zero, List.set_cons_succ, List.getElem_toArray, List.getElem_cons_zero, List.getElem_cons_succ]
    refine Seq.take_lat (i := 28) (v := .slice na 192 nc) rfl (by kernel_rfl) (by kernel_rfl) (by kernel_rfl) (fun _ _ _ h => h) (by rfl) (fun w' hLat => exec_load1 57 _ _ rfl Tryz.underlying57 rfl ⟨g2, 0, none⟩ rfl _ (HR.out w' (below_to hbd hLat)).2.2.1) ?_
    try simp only [Act.put, List.setIfInBounds_toArray, List.set_cons_zero, List.set_cons_succ, List.getElem_toArray, List.getElem_cons_zero, List.getElem_cons_succ]
    refine Seq.take_lat (i := 29) (v := .string (strOfNums T2)) rfl (by kernel_rfl) (by kernel_rfl) (by kernel_rfl) (fun _ _ _ h => h) (by rfl) (fun w' hLat => exec_conv (.tmp 124) rfl rfl (HR.out w' (below_to hbd hLat)).2.2.2) ?_
    try simp only [Act.put, List.setIfInBounds_toArray, List.set_cons_zero, List.set_cons_succ, List.getElem_toArray, List.getElem_cons_zero, List.getElem_cons_succ]
    refine Seq.only_lat (i := 24) rfl (by kernel_rfl) (fun KK hK => ?_)
    rw [if_pos (by rfl)]
    go_simp
    refine Calls.mono (HLK.out wd hbd).1 ?_
    rintro e y1 ⟨rfl, hb1⟩
    have HY1 : Box (Below x15.heap.size x15 y1) := ⟨below_to hbd hb1⟩
    refine hK.out _ _ hb1 ?_
    clear hb1
    clear hK KK
    try simp only [Act.put, List.setIfInBounds_toArray, List.set_cons_zero, List.set_cons_succ, List.getElem_toArray, List.getElem_cons_zero, List.getElem_cons_succ]
    refine Seq.only_lat (i := 30) rfl (by kernel_rfl) (fun KK hK => ?_)
    rw [if_pos (by rfl)]
    go_simp
    refine Calls.mono (HLK.out y1 HY1.out).2 ?_
    rintro e y2 ⟨rfl, hb2⟩
    have HY2 : Box (Below x15.heap.size x15 y2) := ⟨below_to HY1.out hb2⟩
    refine hK.out _ _ hb2 ?_
    clear hb2
    clear hK KK
    try simp only [Act.put, List.setIfInBounds_toArray, List.set_cons_zero, List.set_cons_succ, List.getElem_toArray, List.getElem_cons_zero, List.getElem_cons_succ]
    refine Seq.take_lat (i := 31) (v := .bool true) rfl (by kernel_rfl) (by kernel_rfl) (by kernel_rfl) (fun _ _ _ h => h) (by rfl) (fun w' hLat => exec_eqSum (.tmp 120) (.tmp 126) _ rfl LL LL HLL.out.1 HLL.out.1 true HLL.out.2 rfl rfl) ?_
    try simp only [Act.put, List.setIfInBounds_toArray, List.set_cons_zero, List.set_cons_succ, List.getElem_toArray, List.getElem_cons_zero, List.getElem_cons_succ]
    refine Seq.take_lat (i := 32) (v := ?_) rfl (by kernel_rfl) (by kernel_rfl) (by kernel_rfl) (fun _ _ _ h => h) (by rfl) ?_ ?_
    rotate_left
    · intro w' hLat; change Below _ _ _ at hLat; go_simp <;> with_reducible rfl
    try simp only [Act.put, List.setIfInBounds_toArray, List.set_cons_zero, List.set_cons_succ, List.getElem_toArray, List.getElem_cons_zero, List.getElem_cons_succ]
    refine Seq.take_lat (i := 33) (v := ?_) rfl (by kernel_rfl) (by kernel_rfl) (by kernel_rfl) (fun _ _ _ h => h) (by rfl) ?_ ?_
    rotate_left
    · intro w' hLat; change Below _ _ _ at hLat; go_simp <;> with_reducible rfl
    try simp only [Act.put, List.setIfInBounds_toArray, List.set_cons_zero, List.set_cons_succ, List.getElem_toArray, List.getElem_cons_zero, List.getElem_cons_succ]
    refine wpAnyH_done (by kernel_rfl) ?_ _
    go_wp2
    go_ret
    exact ⟨rfl, below_to HFI.out HY2.out⟩
  · have HL3 : Box (Calls Tryz.prog 25 #[.pointer (some ⟨D, 0, none⟩), .agg AK, .int .i64 0, .int .i64 3, .agg TA] x13 fun e w' => ∃ fp', Disk.Cx x0 w' D fp' (rdD d5 (pcs 0 3 t.start t.count)) ∧ Disk.Fol x13 fp13 w' fp' ∧ e = .returned (.tuple #[.slice none 0 0, .int .i64 14])) := ⟨HL1.out.mono fun e w' ⟨fp', q1, q2, q3⟩ => by
      rcases q3 with ⟨_, q3⟩ | ⟨q3, _⟩
      · exact ⟨fp', q1, q2, q3⟩
      · exact absurd q3 hgd⟩
    clear HL1 hgd
    go_upto_region 18 with (first
      | (refine atLoad 23 ?_; refine wpList_ldMid rfl 23 _ _ rfl Tryz.underlying23 rfl S 0 rfl (K.map (Value.int .u8)) HKU.out.1 HR13.out.1 ?_; rw [HKU.out.2.1])
      | (refine atLoad 27 ?_; refine wpList_ldMid rfl 27 _ _ rfl Tryz.underlying27 rfl G2 0 rfl (scs t) HIT.out.2.2.2.1 HR13.out.2 ?_; rw [HIT.out.2.2.2.2])
      | (go_at_call 25; refine HL3.out.mono ?_; rintro e x14 ⟨fp14, q1, q2, rfl⟩; have HL4 : Box _ := ⟨HL2.out x14 fp14 q1 q2⟩; clear q1 q2))
    clear HL3
    go_wp2_with (first
      | (refine atLoad 23 ?_; refine wpList_ldMid rfl 23 _ _ rfl Tryz.underlying23 rfl S 0 rfl (K.map (Value.int .u8)) HKU.out.1 HL4.out.1 ?_; rw [HKU.out.2.1])
      | (refine atLoad 27 ?_; refine wpList_ldMid rfl 27 _ _ rfl Tryz.underlying27 rfl G1 0 rfl (scs s) HIS.out.2.2.2.1 HL4.out.2.1 ?_; rw [HIS.out.2.2.2.2])
      | (go_at_call 25; refine HL4.out.2.2.mono ?_; rintro e x15 ⟨fp15, a15, c15, l15, rfl, q1, q2⟩; have H15 : Box (Below w.heap.size w x15) := ⟨below_to HX.out.1 q1.bel⟩; clear q1 q2))
    go_ret
    exact ⟨rfl, H15.out⟩
end Go.Proofs.YtjdcccdkddnkgaaGreatDoor
