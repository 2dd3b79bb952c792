/-
  ReplayOld: the last bytes of blocks that were journaled, loaded, are those that were written last.
-/
import Derived.Test.YteaejodihmnbcaaDoorQ40
namespace Go.Proofs.YteaejodihmnbcaaDoor
set_option maxRecDepth 100000
set_option linter.unusedVariables false
open Go.RowKit Plain
attribute [local go_sem] Oper.semAt_some
theorem built_I14 (b : Int) (s : ByteArray) : Tryd.prog.built 60 [(0, .int .u64 b), (1, .string s)] = some #[.int .u64 b, .string s] := by kernel_rfl
/-- All that is so behind k changes. -/
structure OlW (w0 wr : World) (S J D : Nat) (K : List Int) (k : Nat) (fp : Nat → Prop) (j : Jt) (d : Disk.Dk) (X : List (List (Int × List Int))) (v : Value) : Prop where
  jc : JC w0 wr J D fp j d
  bq : Bq K 0 20 20 5 k j d X
  row : wr.ownsRow w0.heap.size 60 2 v (latP X.flatten).length ((latP X.flatten).map ic).flatten
  clr : ∀ g, v.ownBlock = some g → ¬ fp g ∧ g ≠ J
  key : wr.heap[S]? = some (.cells (u8s K) 39 (0, 0))
  sl : S < w0.heap.size
  few : ∀ x ∈ X, x.length ≤ 5
  lens : ∀ x ∈ X, ∀ q ∈ x, q.2.length = 160
theorem OlW.keyf {w0 wr w' : World} {S J D : Nat} {K : List Int} {k : Nat} {fp fp' : Nat → Prop} {j : Jt} {d : Disk.Dk} {X : List (List (Int × List Int))} {v : Value} (h : OlW w0 wr S J D K k fp j d X v) (hf : Fw (fun k => k = J) wr w' fp fp') : w'.heap[S]? = some (.cells (u8s K) 39 (0, 0)) := by
  have hs := h.sl
  have h1 := h.jc.cx.bel.size
  have h2 := h.jc.lo
  exact (hf.block (by omega) (fun hk => by have := h.jc.cx.lo S hk; omega) (by omega)).trans h.key
theorem replayOld_far (K : List Int) (a : Option Addr) (n cap : Nat) (w : World) (hT : Dig.Tabs w) (hT2 : Seal.Tab w) (hn : ¬ n ≤ 4) (hm : n ≤ 9223372036854775807) :
    Calls Tryd.prog 5 #[.agg (u8s K), .slice a n cap] w fun e w' => e = .returned (.bool true) ∧ Below w.heap.size w w' := by
  obtain ⟨w1, hw1⟩ : ∃ w1, w.alloc (.cells (u8s K) 39) = w1 := ⟨_, rfl⟩
  have hb1 : Below w.heap.size w w1 := by rw [← hw1]; exact (Below.refl _ _).alloc (Nat.le_refl _) _
  have HA : Box (Calls Tryd.prog 6 #[] w1 fun e w' => e = .returned (.bool true) ∧ Below w1.heap.size w1 w') := ⟨awake14_v w1 (hT.below hb1) (hT2.below hb1)⟩
  have HB : Box (Below w.heap.size w w1) := ⟨hb1⟩
  have hg : decide ((4 : Int) < (n : Int)) = true := by simp; omega
  have hg2 : (4 : Int) < (n : Int) := by omega
  obtain ⟨AK, hAK⟩ : ∃ A, u8s K = A := ⟨_, rfl⟩
  rw [hAK] at hw1 ⊢
  clear hT hT2 hb1 hAK
  go_enter Tryd.func5, Tryd.ntmps5
  go_upto_region 1 with fail
  (try rw [hw1])
  clear hw1
  go_wp2_with (go_at_call 6; refine HA.out.mono ?_; rintro e x1 ⟨rfl, hb⟩; have H1 : Box (Below w1.heap.size w1 x1) := ⟨hb⟩; clear hb)
  go_ret
  exact ⟨rfl, below_to HB.out H1.out⟩
set_option maxHeartbeats 16000000 in
theorem replayOld_core (K : List Int) (hK : K.length = 32 ∧ Byt K) (a : Option Addr) (cap : Nat) (C : List Sx) (w : World) (hT : Dig.Tabs w) (hT2 : Seal.Tab w) (h : Igss w a C) (hl4 : C.length ≤ 4) :
    Calls Tryd.prog 5 #[.agg (u8s K), .slice a C.length cap] w fun e w' => e = .returned (.bool true) ∧ Below w.heap.size w w' := by
  obtain ⟨n, hn⟩ : ∃ n, C.length = n := ⟨_, rfl⟩
  obtain ⟨S, hS⟩ : ∃ S, w.heap.size = S := ⟨_, rfl⟩
  obtain ⟨AK, hAK⟩ : ∃ A, u8s K = A := ⟨_, rfl⟩
  obtain ⟨w1, hw1⟩ : ∃ w1, w.alloc (.cells AK 39) = w1 := ⟨_, rfl⟩
  have hb1 : Below w.heap.size w w1 := by rw [← hw1]; exact (Below.refl _ _).alloc (Nat.le_refl _) _
  have k1 : w1.heap[S]? = some (.cells (u8s K) 39 (0, 0)) := by rw [← hw1, hAK]; exact al_at hS
  have HA : Box (Calls Tryd.prog 6 #[] w1 fun e w' => e = .returned (.bool true) ∧ Below w1.heap.size w1 w') := ⟨awake14_v w1 (hT.below hb1) (hT2.below hb1)⟩
  have H0 : Box (Below w.heap.size w w1 ∧ w1.heap[S]? = some (.cells (u8s K) 39 (0, 0)) ∧ w.heap.size = S) := ⟨hb1, k1, hS⟩
  have HT : Box (∀ x, Below w.heap.size w x → Dig.Tabs x ∧ Seal.Tab x ∧ Igss x a C) := ⟨fun x hx => ⟨hT.below hx, hT2.below hx, h.below hx⟩⟩
  have HN : Box (C.length = n ∧ n ≤ 4) := ⟨hn, by omega⟩
  have HKU : Box ((Tryd.prog.info? 39).map (·.size) = some (K.map (Value.int .u8)).length ∧ (K.map (Value.int .u8)).toArray = AK ∧ u8s K = AK ∧ K.length = 32 ∧ Byt K) := ⟨by rw [List.length_map, hK.1]; exact infoSum, by rw [← hAK]; rfl, hAK, hK⟩
  have hg2 : ¬ (4 : Int) < (n : Int) := by omega
  rw [hAK, hn]
  clear hT hT2 hb1 hAK k1 hS hn h hl4 hK
  go_enter Tryd.func5, Tryd.ntmps5
  go_upto_region 1 with fail
  (try simp only [H0.out.2.2])
  clear hw1
  go_upto_region 6 with (go_at_call 6; refine HA.out.mono ?_; rintro e x0 ⟨rfl, hb⟩; have HX0 : Box (Below w1.heap.size w1 x0) := ⟨hb⟩; clear hb)
  clear HA
  obtain ⟨D, hD⟩ : ∃ D, x0.heap.size + 1 = D := ⟨_, rfl⟩
  have HX : Box (Below w.heap.size w x0 ∧ x0.heap[S]? = some (.cells (u8s K) 39 (0, 0)) ∧ S < x0.heap.size ∧ Dig.Tabs x0 ∧ Seal.Tab x0) := ⟨by
    have hb := below_to H0.out.1 HX0.out
    have hl := (Array.getElem?_eq_some_iff.1 H0.out.2.1).1
    have := HX0.out.size
    exact ⟨hb, (HX0.out.block S hl).trans H0.out.2.1, by omega, (HT.out x0 hb).1, (HT.out x0 hb).2.1⟩⟩
  have HD : Box (Calls Tryd.prog 13 #[.int .i64 20] x0 fun e w' => e = .returned (.tuple #[.pointer (some ⟨D, 0, none⟩), .int .i64 0]) ∧ ∃ fp, Disk.Cx x0 w' D fp (Disk.dk0 20)) := ⟨by have := Disk.new_cx x0 20 ⟨by omega, by omega⟩; rw [hD] at this; exact this⟩
  obtain ⟨d0, hd0⟩ : ∃ d0, Disk.dk0 20 = d0 := ⟨_, rfl⟩
  rw [hd0] at HD
  have HBS : Box (Bq K 0 20 20 5 0 ⟨K, 0, 20, zs, 1, 1099511627776⟩ d0 []) := ⟨by rw [← hd0]; exact bq_start K 0 20 20 5 0 (by omega) (by omega) (by omega)⟩
  clear hD hd0
  go_upto_region 7 with (go_at_call 13; refine HD.out.mono ?_; rintro e x1 ⟨rfl, fp1, hc⟩; have H1 : Box (Disk.Cx x0 x1 D fp1 d0) := ⟨hc⟩; clear hc)
  obtain ⟨SZ, HSZ⟩ : ∃ A, Box (sa zs = A) := ⟨_, ⟨rfl⟩⟩
  have HJN : Box (Calls Tryd.prog 14 #[.pointer (some ⟨D, 0, none⟩), .agg AK, .int .i64 0, .int .i64 20, .agg SZ, .int .u64 1, .int .u64 1099511627776] x1 fun e w' => ∃ J, e = .returned (.tuple #[.pointer (some ⟨J, 0, none⟩), .int .i64 0]) ∧ JC x0 w' J D fp1 ⟨K, 0, 20, zs, 1, 1099511627776⟩ d0 ∧ Below x1.heap.size x1 w' ∧ x1.heap.size ≤ J) := ⟨by
    have hq := HBS.out.dn
    have := jnew_ok H1.out K HKU.out.2.2.2 0 20 (by omega) (by omega) (by omega) zs okS_zs (by decide) 1 1099511627776 ⟨by omega, by omega⟩ ⟨by omega, by omega⟩ HX.out.2.2.2.1 HX.out.2.2.2.2
    rw [HKU.out.2.2.1, HSZ.out] at this
    exact this⟩
  have HR1 : Box (x1.rangeAt S 0 (K.map (Value.int .u8))) := ⟨range_u8 ((H1.out.bel.block S HX.out.2.2.1).trans HX.out.2.1)⟩
  clear HD
  go_upto_region 10 with (first
    | (refine atLoad 39 ?_; refine wpList_ldMid rfl 39 _ _ rfl Tryd.underlying39 rfl S 0 rfl (K.map (Value.int .u8)) HKU.out.1 HR1.out ?_; rw [HKU.out.2.1])
    | (refine atBuild 48 ?_; refine wpList_run rfl _ _ (exec_built 48 [] rfl [] rfl SZ (by rw [← HSZ.out]; exact built_St0)) ?_)
    | (go_at_call 14; refine HJN.out.mono ?_; rintro e x2 ⟨J, rfl, q1, q2, q3⟩; have H2 : Box (JC x0 x2 J D fp1 ⟨K, 0, 20, zs, 1, 1099511627776⟩ d0 ∧ Below x1.heap.size x1 x2) := ⟨q1, q2⟩; clear q1 q2 q3))
  have HLP : Box (OlW x0 x2 S J D K 0 fp1 ⟨K, 0, 20, zs, 1, 1099511627776⟩ d0 [] (.slice none 0 0)) := ⟨⟨H2.out.1, HBS.out, World.ownsRow_nil _ _ _ _, fun g hg => (by cases hg), (H2.out.1.cx.bel.block S HX.out.2.2.1).trans HX.out.2.1, HX.out.2.2.1, fun x hx => (by simp at hx), fun x hx => (by simp at hx)⟩⟩
  clear HJN H1 H2 HR1 HBS HSZ
  go_loopw [10, 11] (fun u i wr => ∃ (k : Nat) (fp : Nat → Prop) (j : Jt) (d : Disk.Dk) (X : List (List (Int × List Int))), k ≤ n ∧ i = .int .i64 (k : Int) ∧ Box (OlW x0 wr S J D K k fp j d X u ∧ X.length = k)) (fun _ i _ => n - (intOf i).toNat)
  case atStart => exact ⟨0, fp1, _, d0, [], Nat.zero_le _, rfl, ⟨HLP.out, rfl⟩⟩
  case round =>
    clear HLP
    obtain ⟨k, fp, j, d, X, hk, rfl, HG⟩ := hrel
    obtain ⟨wo, rfl⟩ : ∃ wo, wo = wr := ⟨_, rfl⟩
    have hbw : Below w.heap.size w wo := below_to HX.out.1 HG.out.1.jc.cx.bel
    have HBW : Box (Below w.heap.size w wo) := ⟨hbw⟩
    by_cases hlt : k < n
    · have hlt1 : decide ((k : Int) < (n : Int)) = true := by simp; omega
      have hkC : k < C.length := by rw [HN.out.1]; exact hlt
      have HK : Box (k < n ∧ n ≤ 4) := ⟨hlt, HN.out.2⟩
      have HIo := (HT.out wo hbw).2.2
      obtain ⟨b, o, hae, hbl, hr⟩ := HIo.tb (by omega)
      subst hae
      have hrk := hr k hkC
      obtain ⟨hcl, hcI, hcm⟩ := HIo.im C[k] (List.getElem_mem hkC)
      obtain ⟨⟨ca, cl, cc, CM⟩, hx⟩ : ∃ c, C[k] = c := ⟨_, rfl⟩
      rw [hx] at hrk hcl hcI hcm
      dsimp only at hcl hcI hcm
      have c0 : wo.cell? ⟨b, o + k, none⟩ = some (.slice ca cl cc) := by have := hrk 0 _ rfl; rwa [Nat.mul_one, Nat.add_zero] at this
      unfold maxLen at hcm
      by_cases h0 : cl = 0
      · subst h0
        clear hx hrk hcI HIo hr hbl hcl HG hbw
        go_wp2_with (refine atIdx 22 ?_; refine wpList_runG (by rfl) _ _ (exec_idxT 22 24 Tryd.underlying22 1 infoSlz2 _ _ rfl b o n cap k rfl rfl HK.out.1) ?_; (try rw [Nat.mul_one]))
        go_ret
        exact ⟨rfl, HBW.out⟩
      · have hd6 : ((cl : Int) == 0) = false := by simp; omega
        by_cases h4 : cl ≤ 5
        · have hd4 : decide ((5 : Int) < (cl : Int)) = false := by simp; omega
          have hd5 : ¬ (5 : Int) < (cl : Int) := by omega
          have HIM : Box (Calls Tryd.prog 7 #[.slice ca cl cc, .bool false] wo fun e w' => ∃ a1 c1 XI, e = .returned (.slice a1 cl c1) ∧ XI.length = cl ∧ OImgs w' wo.heap.size (.slice a1 XI.length c1) XI ∧ (∀ x ∈ XI.map pl, x.2.length = 160 ∧ Byt x.2 ∧ N64 x.1) ∧ (∀ m ∈ XI, m.bl ≤ 100000) ∧ Below wo.heap.size wo w') := ⟨by
            have := images_any ca cc CM false wo hcI (by omega)
            rw [hcl] at this
            refine this.mono ?_
            rintro e w' ⟨v, XI, rfl, hig⟩
            have hlX : XI.length = cl := hig.len
            have hig2 : Ig wo w' false CM CM.length v XI := by rw [hcl]; exact hig
            have hB : ∀ m ∈ CM, Byt m.bs := fun m hm => (hcI.byt m hm).1.2.1
            obtain ⟨a1, c1, rfl⟩ := own_form2 hig.im.row
            refine ⟨a1, c1, XI, by rw [hlX], hlX, hig.im, img_ok hig2 hB, fun m hm => by rw [img_bl hig2 hB m hm]; omega, hig.bel⟩⟩
          clear hx hrk hcI HIo hr hbl hcl
          go_upto_region 15 with (first
            | (refine atIdx 22 ?_; refine wpList_runG (by rfl) _ _ (exec_idxT 22 24 Tryd.underlying22 1 infoSlz2 _ _ rfl b o n cap k rfl rfl HK.out.1) ?_; (try rw [Nat.mul_one]))
            | (go_at_call 7; refine HIM.out.mono ?_; rintro e x3 ⟨a3, c3, XI, rfl, q1, q2, q3, q4, q5⟩; have H3 : Box (XI.length = cl ∧ OImgs x3 wo.heap.size (.slice a3 XI.length c3) XI ∧ (∀ x ∈ XI.map pl, x.2.length = 160 ∧ Byt x.2 ∧ N64 x.1) ∧ (∀ m ∈ XI, m.bl ≤ 100000) ∧ Below wo.heap.size wo x3) := ⟨q1, q2, q3, q4, q5⟩; clear q1 q2 q3 q4 q5))
          clear HIM c0
          have HBQ : Box (Bq K 0 20 20 5 k j d X) := ⟨HG.out.1.bq⟩
          have HAP : Box (Calls Tryd.prog 15 #[.pointer (some ⟨J, 0, none⟩), .slice a3 cl c3] x3 fun e w' => ApV x0 x3 J D fp j (appM j d (XI.map pl)) e w') := ⟨by
            have hq := HBQ.out
            have hk4 := HK.out
            have := append_v (HG.out.1.jc.below H3.out.2.2.2.2) a3 c3 XI H3.out.2.1.imgs (by rw [H3.out.1]; omega) H3.out.2.2.2.1 hq.left (by have := hq.ops; omega) (by have := hq.uw; omega)
            rw [H3.out.1] at this
            exact this⟩
          have hne : XI.map pl ≠ [] := fun e => h0 (by have := congrArg List.length e; simp at this; rw [← H3.out.1, this]; rfl)
          have hstp := HBQ.out.step HG.out.1.jc.ok (XI.map pl) hne (by rw [List.length_map, H3.out.1]; omega) H3.out.2.2.1 (by have := HK.out; omega) (by omega)
          obtain ⟨y, hy⟩ : ∃ y, appM j d (XI.map pl) = y := ⟨_, rfl⟩
          rw [hy] at hstp HAP
          obtain ⟨y1, y2, y3, y4⟩ := y
          dsimp only at hstp
          obtain ⟨rfl, hoy, hxy, hby⟩ := hstp
          have HY : Box (OkS y4 ∧ (1 ≤ y2 ∧ y2 ≤ 18446744073709551615) ∧ Bq K 0 20 20 5 (k + 1) (adp { j with nx := y2 } y4 1099511627776) y1 (X ++ [XI.map pl])) := ⟨hoy, hxy, hby⟩
          obtain ⟨SA, HSA⟩ : ∃ A, Box (sa y4 = A) := ⟨_, ⟨rfl⟩⟩
          have HIS : Box ((Tryd.prog.info? 48).map (·.size) = some SA.size ∧ (sa zs).size = SA.size ∧ SA.all (·.oneCell') = true ∧ (Tryd.prog.info? 48).map (·.size) = some (scs y4).length ∧ (scs y4).toArray = SA) := ⟨by rw [← HSA.out, size_sa hoy]; exact infoSt, by rw [← HSA.out, size_sa hoy, size_sa okS_zs], by rw [← HSA.out]; exact all_sa y4, by rw [len_scs hoy]; exact infoSt, by rw [← HSA.out]; rfl⟩
          have HA2 : Box (Calls Tryd.prog 15 #[.pointer (some ⟨J, 0, none⟩), .slice a3 cl c3] x3 fun e w' => e = .returned (.tuple #[.agg SA, .int .i64 0]) ∧ ∃ fp', JC x0 w' J D fp' { j with nx := y2 } y1 ∧ Fw (fun k => k = J) x3 w' fp fp') := ⟨by
            refine HAP.out.mono ?_
            rintro e w' ⟨fp', q1, q2, q3⟩
            exact ⟨by rw [q1, HSA.out], fp', q2, q3⟩⟩
          clear HAP hoy hxy hby hy hne
          go_upto_region 18 with (first
            | (go_at_call 15; refine HA2.out.mono ?_; rintro e x4 ⟨rfl, fp4, q1, q2⟩; have H4 : Box (JC x0 x4 J D fp4 { j with nx := y2 } y1 ∧ Fw (fun k => k = J) x3 x4 fp fp4) := ⟨q1, q2⟩; clear q1 q2)
            | (refine atAlloc _ ?_; refine wpList_run rfl _ _ (exec_alloc 48 rfl _ zeroSt) ?_)
            | (refine atStore _ ?_; refine wpList_newRow x4 (sa zs) SA HIS.out.1 HIS.out.2.1 HIS.out.2.2.1 rfl _ _ rfl rfl rfl rfl ?_; intro x5 h5 hb5; have H5 : Box (x5.heap[x4.heap.size]? = some (.cells SA 48 (0, 0)) ∧ Below x4.heap.size x4 x5) := ⟨h5, hb5⟩; clear h5 hb5))
          clear HA2
          obtain ⟨G, hG⟩ : ∃ G, x4.heap.size = G := ⟨_, rfl⟩
          (try simp only [hG])
          have HR5 : Box (x5.rangeAt G 0 (scs y4)) := ⟨fun i v hv => by
            have := H5.out.1
            rw [hG] at this
            rw [cell_of_row _ _ _ _ _ _ this, Nat.zero_add, ← HIS.out.2.2.2.2]
            simpa using hv⟩
          clear hG
          have HAD : Box (Calls Tryd.prog 16 #[.pointer (some ⟨J, 0, none⟩), .agg SA, .int .u64 1099511627776] x5 fun e w' => e = .returned (.tuple #[]) ∧ JC x0 w' J D fp4 (adp { j with nx := y2 } y4 1099511627776) y1 ∧ Fw (fun k => k = J) x3 w' fp fp4) := ⟨by
            have := adopt_v (H4.out.1.below H5.out.2) y4 HY.out.1 1099511627776 ⟨by omega, by omega⟩
            rw [HSA.out] at this
            refine this.mono ?_
            rintro e w' ⟨q1, q2, q3⟩
            exact ⟨q1, q2, H4.out.2.trans ((Fw.below _ fp4 H5.out.2).trans q3)⟩⟩
          go_upto_region 19 with (first
            | (refine atLoad 48 ?_; refine wpList_ldMid rfl 48 _ _ rfl Tryd.underlying48 rfl G 0 rfl (scs y4) HIS.out.2.2.2.1 HR5.out ?_; rw [HIS.out.2.2.2.2])
            | (go_at_call 16; refine HAD.out.mono ?_; rintro e x6 ⟨rfl, q1, q2⟩; have H6 : Box (JC x0 x6 J D fp4 (adp { j with nx := y2 } y4 1099511627776) y1 ∧ Fw (fun k => k = J) x3 x6 fp fp4) := ⟨q1, q2⟩; clear q1 q2))
          clear HAD HR5 H5 H4
          have HF6 : Box (Fw (fun k => k = J) wo x6 fp fp4) := ⟨(Fw.below _ fp H3.out.2.2.2.2).trans H6.out.2⟩
          have HOI : Box (∀ x, Below x6.heap.size x6 x → OImgs x wo.heap.size (.slice a3 XI.length c3) XI) := ⟨fun x hx => (H3.out.2.1.same (fun i h1 h2 => H6.out.2.block h2 (fun hf => by have := HG.out.1.jc.cx.hi i hf; omega) (by have := HG.out.1.jc.lt; omega))).to hx⟩
          have HL0 : Box (x6.ownsRow x0.heap.size 60 2 u10 (latP (X.flatten ++ (XI.map pl).take 0)).length ((latP (X.flatten ++ (XI.map pl).take 0)).map ic).flatten ∧ (∀ g, u10.ownBlock = some g → ¬ fp4 g ∧ g ≠ J) ∧ Below x6.heap.size x6 x6) := ⟨by
            rw [List.take_zero, List.append_nil]
            exact own_same HG.out.1.row (fun i hi => HF6.out.block (HG.out.1.row.lt i hi).2 (HG.out.1.clr i hi).1 (HG.out.1.clr i hi).2), fun g hg => ⟨HF6.out.k g (HG.out.1.row.lt g hg).2 (HG.out.1.clr g hg).1, (HG.out.1.clr g hg).2⟩, Below.refl _ _⟩
          have HFEW : Box (X.flatten.length ≤ 100) := ⟨by
            have h1 := HG.out.1.few
            have h2 := HG.out.2
            have h3 := HK.out
            have key : ∀ L : List (List (Int × List Int)), (∀ x ∈ L, x.length ≤ 5) → L.flatten.length ≤ 5 * L.length := by
              intro L
              induction L with
              | nil => intro _; simp
              | cons c L ih =>
                intro hh
                have h1 := ih (fun c hc => hh c (by simp [hc]))
                have h2 := hh c (by simp)
                rw [List.flatten_cons, List.length_append, List.length_cons]
                omega
            have := key X h1
            omega⟩
          have HEND : Box (∀ (wq : World) (v : Value), wq.ownsRow x0.heap.size 60 2 v (latP (X.flatten ++ XI.map pl)).length ((latP (X.flatten ++ XI.map pl)).map ic).flatten → (∀ g, v.ownBlock = some g → ¬ fp4 g ∧ g ≠ J) → Below x6.heap.size x6 wq → ∃ fp j d X, OlW x0 wq S J D K (k + 1) fp j d X v ∧ X.length = k + 1) := ⟨fun wq v q1 q2 q3 => ⟨fp4, _, y1, X ++ [XI.map pl], ⟨H6.out.1.below q3, HY.out.2.2, by rw [List.flatten_append, List.flatten_cons, List.flatten_nil, List.append_nil]; exact q1, q2, by
              have hk := HG.out.1.keyf HF6.out
              exact (q3.block S (Array.getElem?_eq_some_iff.1 hk).1).trans hk, HG.out.1.sl, fun x hx => by
              rcases List.mem_append.1 hx with hx | hx
              · exact HG.out.1.few x hx
              · simp only [List.mem_cons, List.not_mem_nil, or_false] at hx
                rw [hx, List.length_map, H3.out.1]
                exact h4, fun x hx => by
              rcases List.mem_append.1 hx with hx | hx
              · exact HG.out.1.lens x hx
              · simp only [List.mem_cons, List.not_mem_nil, or_false] at hx
                rw [hx]
                exact fun q hq => (H3.out.2.2.1 q hq).1⟩, by simp [HG.out.2]⟩⟩
          have HX06 : Box (x0.heap.size ≤ x6.heap.size ∧ J < x6.heap.size ∧ ∀ g, fp4 g → g < x6.heap.size) := ⟨H6.out.1.cx.bel.size, H6.out.1.lt, H6.out.1.cx.hi⟩
          have HXI : Box (XI.length = cl) := ⟨H3.out.1⟩
          clear HG hbw H3 HBQ
          go_wp2
          go_loopw [10, 15] (fun v i wq => ∃ q : Nat, q ≤ cl ∧ i = .int .i64 (q : Int) ∧ Box (wq.ownsRow x0.heap.size 60 2 v (latP (X.flatten ++ (XI.map pl).take q)).length ((latP (X.flatten ++ (XI.map pl).take q)).map ic).flatten ∧ (∀ g, v.ownBlock = some g → ¬ fp4 g ∧ g ≠ J) ∧ Below x6.heap.size x6 wq)) (fun _ i _ => cl - (intOf i).toNat)
          case atStart => exact ⟨0, Nat.zero_le _, rfl, HL0⟩
          case round =>
            clear HL0
            obtain ⟨q, hq, rfl, HQ⟩ := hrel
            by_cases hql : q < cl
            · have hq1 : decide ((q : Int) < (cl : Int)) = true := by simp; omega
              have HQL : Box (q < cl) := ⟨hql⟩
              have hqX : q < XI.length := by rw [HXI.out]; exact hql
              have hoi := HOI.out wr HQ.out.2.2
              obtain ⟨b1, o1, hae1, hbl1, hr1⟩ := hoi.imgs.tb (by omega)
              subst hae1
              have hrq := hr1 q hqX
              have hby := (hoi.byt XI[q] (List.getElem_mem hqX)).byi
              have HSTP : Box (X.flatten ++ (XI.map pl).take (q + 1) = (X.flatten ++ (XI.map pl).take q) ++ [pl XI[q]]) := ⟨by rw [List.take_succ_eq_append_getElem (by simpa using hqX), List.append_assoc, List.getElem_map]⟩
              obtain ⟨⟨blk, ba, bl, bc, bs⟩, hmm⟩ : ∃ m, XI[q] = m := ⟨_, rfl⟩
              rw [hmm] at hrq hby HSTP
              dsimp only at hby
              have HR : Box (∀ x, Below wr.heap.size wr x → x.cell? ⟨b1, o1 + q * 2, none⟩ = some (.int .u64 blk) ∧ x.cell? ⟨b1, o1 + q * 2 + 1, none⟩ = some (.slice ba bl bc) ∧ Bytes x ba bl bs) := ⟨fun x hx => ⟨(hx.cell hbl1).trans (hrq 0 _ rfl), (hx.cell hbl1).trans (hrq 1 _ rfl), hby.1.below hx⟩⟩
              obtain ⟨va, vc, hv⟩ := own_form2 HQ.out.1
              have HPU : Box (∀ x, Below wr.heap.size wr x → Calls Tryd.prog 20 #[u10, .agg #[.int .u64 blk, .string (strOfNums bs)]] x fun e w' => ∃ v, e = .returned v ∧ w'.ownsRow x0.heap.size 60 2 v (latP (X.flatten ++ (XI.map pl).take (q + 1))).length ((latP (X.flatten ++ (XI.map pl).take (q + 1))).map ic).flatten ∧ (∀ g, v.ownBlock = some g → ¬ fp4 g ∧ g ≠ J) ∧ Below x.heap.size x w') := ⟨fun x hx => by
                have hrow := own_to HQ.out.1 hx
                rw [hv] at hrow
                have hlp := len_latP (X.flatten ++ (XI.map pl).take q)
                have hfw := HFEW.out
                have hxl := HXI.out
                simp only [List.length_append, List.length_take, List.length_map] at hlp
                have := rput14_any va vc (latP (X.flatten ++ (XI.map pl).take q)) (blk, bs) x (own_tb (fun _ => rfl) hrow rfl) (by omega) (own_cap2 hrow).1
                rw [hv]
                refine Calls.mono (show Calls Tryd.prog 20 #[.slice va _ vc, .agg #[.int .u64 blk, .string (strOfNums bs)]] x _ from this) ?_
                rintro e w' ⟨v, rfl, q1, q2⟩
                have hs1 := HQ.out.2.2.size
                have hs2 := hx.size
                have h06 := HX06.out
                refine ⟨v, rfl, ?_, fun g hg => ?_, q2⟩
                · rw [HSTP.out, latP_snoc]
                  exact own_low2 q1 (by omega)
                · have := (own_blk q1 g hg).1
                  exact ⟨fun hf => by have := h06.2.2 g hf; omega, by omega⟩⟩
              have hw4 : IntKind.i64.wrap ((q : Int) + 1) = ((q + 1 : Nat) : Int) := by rw [IntKind.wrap_i64]; omega
              clear hrq hr1 hmm hv hoi hby hbl1
              go_upto_region 22 with fail
              refine Seq.begin_any (by kernel_rfl) (fun wd hd => ?_)
              have hbd : Below wr.heap.size wr wd := hd.mono (Nat.le_refl _)
              refine Seq.take_lat (i := 0) (v := ?_) rfl (by kernel_rfl) (by kernel_rfl) (by kernel_rfl) (fun _ _ _ h => h) (by rfl) ?_ ?_
              rotate_left
              · intro w' hLat; change Below _ _ _ at hLat; go_simp <;> with_reducible rfl
              try simp only [Act.put, List.setIfInBounds_toArray, List.set_cons_zero, List.set_cons_succ, List.getElem_toArray, List.getElem_cons_zero]
              refine Seq.take_lat (i := 1) (v := ?_) rfl (by kernel_rfl) (by kernel_rfl) (by kernel_rfl) (fun _ _ _ h => h) (by rfl) ?_ ?_
              rotate_left
              · intro w' hLat; change Below _ _ _ at hLat; go_simp <;> with_reducible rfl
              try simp only [Act.put, List.setIfInBounds_toArray, List.set_cons_zero, List.set_cons_succ, List.getElem_toArray, List.getElem_cons_zero, List.getElem_cons_succ]
              refine Seq.take_lat (i := 2) (v := ?_) rfl (by kernel_rfl) (by kernel_rfl) (by kernel_rfl) (fun _ _ _ h => h) (by rfl) ?_ ?_
              rotate_left
              · intro w' hLat; change Below _ _ _ at hLat; go_simp <;> with_reducible rfl
              try simp only [Act.put, List.setIfInBounds_toArray, List.set_cons_zero, List.set_cons_succ, List.getElem_toArray, List.getElem_cons_zero, List.getElem_cons_succ]
              refine Seq.take_lat (i := 3) (v := .pointer (some ⟨b1, o1 + q * 2, none⟩)) rfl (by kernel_rfl) (by kernel_rfl) (by kernel_rfl) (fun _ _ _ h => h) (by rfl) (fun w' hLat => exec_idxT 24 36 Tryd.underlying24 2 infoIm _ _ rfl b1 o1 cl c3 q rfl rfl HQL.out) ?_
              try simp only [Act.put, List.setIfInBounds_toArray, List.set_cons_zero, List.set_cons_succ, List.getElem_toArray, List.getElem_cons_zero, List.getElem_cons_succ]
              refine Seq.take_lat (i := 4) (v := ?_) rfl (by kernel_rfl) (by kernel_rfl) (by kernel_rfl) (fun _ _ _ h => h) (by rfl) ?_ ?_
              rotate_left
              · intro w' hLat; change Below _ _ _ at hLat; go_simp <;> with_reducible rfl
              try simp only [Act.put, List.setIfInBounds_toArray, List.set_cons_zero, List.set_cons_succ, List.getElem_toArray, List.getElem_cons_zero, List.getElem_cons_succ]
              refine Seq.take_lat (i := 5) (v := .int .u64 blk) rfl (by kernel_rfl) (by kernel_rfl) (by kernel_rfl) (fun _ _ _ h => h) (by rfl) (fun w' hLat => exec_load1 33 _ _ rfl Tryd.underlying33 rfl ⟨b1, o1 + q * 2, none⟩ rfl _ (HR.out w' (below_to hbd hLat)).1) ?_
              try simp only [Act.put, List.setIfInBounds_toArray, List.set_cons_zero, List.set_cons_succ, List.getElem_toArray, List.getElem_cons_zero, List.getElem_cons_succ]
              refine Seq.take_lat (i := 6) (v := ?_) rfl (by kernel_rfl) (by kernel_rfl) (by kernel_rfl) (fun _ _ _ h => h) (by rfl) ?_ ?_
              rotate_left
              · intro w' hLat; change Below _ _ _ at hLat; go_simp <;> with_reducible rfl
              try simp only [Act.put, List.setIfInBounds_toArray, List.set_cons_zero, List.set_cons_succ, List.getElem_toArray, List.getElem_cons_zero, List.getElem_cons_succ]
              refine Seq.take_lat (i := 7) (v := ?_) rfl (by kernel_rfl) (by kernel_rfl) (by kernel_rfl) (fun _ _ _ h => h) (by rfl) ?_ ?_
              rotate_left
              · intro w' hLat; change Below _ _ _ at hLat; go_simp <;> with_reducible rfl
              try simp only [Act.put, List.setIfInBounds_toArray, List.set_cons_zero, List.set_cons_succ, List.getElem_toArray, List.getElem_cons_zero, List.getElem_cons_succ]
              refine Seq.take_lat (i := 8) (v := .pointer (some ⟨b1, o1 + q * 2, none⟩)) rfl (by kernel_rfl) (by kernel_rfl) (by kernel_rfl) (fun _ _ _ h => h) (by rfl) (fun w' hLat => exec_idxT 24 36 Tryd.underlying24 2 infoIm _ _ rfl b1 o1 cl c3 q rfl rfl HQL.out) ?_
              try simp only [Act.put, List.setIfInBounds_toArray, List.set_cons_zero, List.set_cons_succ, List.getElem_toArray, List.getElem_cons_zero, List.getElem_cons_succ]
              refine Seq.take_lat (i := 9) (v := ?_) rfl (by kernel_rfl) (by kernel_rfl) (by kernel_rfl) (fun _ _ _ h => h) (by rfl) ?_ ?_
              rotate_left
              · intro w' hLat; change Below _ _ _ at hLat; go_simp <;> with_reducible rfl
              try simp only [Act.put, List.setIfInBounds_toArray, List.set_cons_zero, List.set_cons_succ, List.getElem_toArray, List.getElem_cons_zero, List.getElem_cons_succ]
              refine Seq.take_lat (i := 10) (v := .slice ba bl bc) rfl (by kernel_rfl) (by kernel_rfl) (by kernel_rfl) (fun _ _ _ h => h) (by rfl) (fun w' hLat => exec_load1 34 _ _ rfl Tryd.underlying34 rfl ⟨b1, o1 + q * 2 + 1, none⟩ rfl _ (HR.out w' (below_to hbd hLat)).2.1) ?_
              try simp only [Act.put, List.setIfInBounds_toArray, List.set_cons_zero, List.set_cons_succ, List.getElem_toArray, List.getElem_cons_zero, List.getElem_cons_succ]
              refine Seq.take_lat (i := 11) (v := .string (strOfNums bs)) rfl (by kernel_rfl) (by kernel_rfl) (by kernel_rfl) (fun _ _ _ h => h) (by rfl) (fun w' hLat => exec_conv (.tmp 91) rfl rfl (HR.out w' (below_to hbd hLat)).2.2) ?_
              try simp only [Act.put, List.setIfInBounds_toArray, List.set_cons_zero, List.set_cons_succ, List.getElem_toArray, List.getElem_cons_zero, List.getElem_cons_succ]
              refine Seq.take_lat (i := 12) (v := .agg #[.int .u64 blk, .string (strOfNums bs)]) rfl (by kernel_rfl) (by kernel_rfl) (by kernel_rfl) (fun _ _ _ h => h) (by rfl) (fun w' hLat => exec_built 60 [(0, .tmp 86), (1, .tmp 92)] rfl [(0, .int .u64 blk), (1, .string (strOfNums bs))] rfl _ (built_I14 _ _)) ?_
              try simp only [Act.put, List.setIfInBounds_toArray, List.set_cons_zero, List.set_cons_succ, List.getElem_toArray, List.getElem_cons_zero, List.getElem_cons_succ]
              refine Seq.only_lat (i := 13) rfl (by kernel_rfl) (fun KK hK => ?_)
              rw [if_pos (by rfl)]
              go_simp
              refine Calls.mono (HPU.out wd hbd) ?_
              rintro e x7 ⟨v7, rfl, q1, q2, q3⟩
              have H7 : Box (x7.ownsRow x0.heap.size 60 2 v7 (latP (X.flatten ++ (XI.map pl).take (q + 1))).length ((latP (X.flatten ++ (XI.map pl).take (q + 1))).map ic).flatten ∧ (∀ g, v7.ownBlock = some g → ¬ fp4 g ∧ g ≠ J) ∧ Below x6.heap.size x6 x7) := ⟨q1, q2, below_to HQ.out.2.2 (below_to hbd q3)⟩
              refine hK.out _ _ q3 ?_
              clear q1 q2 q3
              clear hK KK
              try simp only [Act.put, List.setIfInBounds_toArray, List.set_cons_zero, List.set_cons_succ, List.getElem_toArray, List.getElem_cons_zero, List.getElem_cons_succ]
              refine Seq.take_lat (i := 14) (v := ?_) rfl (by kernel_rfl) (by kernel_rfl) (by kernel_rfl) (fun _ _ _ h => h) (by rfl) ?_ ?_
              rotate_left
              · intro w' hLat; change Below _ _ _ at hLat; go_simp <;> with_reducible rfl
              try simp only [Act.put, List.setIfInBounds_toArray, List.set_cons_zero, List.set_cons_succ, List.getElem_toArray, List.getElem_cons_zero, List.getElem_cons_succ]
              refine wpAnyH_done (by kernel_rfl) ?_ _
              go_wp2
              go_roundw
              case rel => exact ⟨q + 1, by omega, by go_num, H7⟩
              case measure => simp [intOf]; omega
            · have hq1 : decide ((q : Int) < (cl : Int)) = false := by simp; omega
              obtain rfl : q = cl := by omega
              have HE : Box (∃ fp j d X, OlW x0 wr S J D K (k + 1) fp j d X u10 ∧ X.length = k + 1) := ⟨by
                have h1 := HQ.out
                rw [List.take_of_length_le (by rw [List.length_map, HXI.out]; exact Nat.le_refl _)] at h1
                exact HEND.out wr u10 h1.1 h1.2.1 h1.2.2⟩
              have hwk : IntKind.i64.wrap ((k : Int) + 1) = ((k + 1 : Nat) : Int) := by have := HK.out; rw [IntKind.wrap_i64]; omega
              clear HQ
              go_wp2
              go_roundw
              case rel =>
                obtain ⟨fp', j', d', X', h8⟩ := HE.out
                exact ⟨k + 1, fp', j', d', X', by have := HK.out; omega, by go_num, ⟨h8⟩⟩
              case measure => have := HK.out; simp [intOf]; omega
        · have hd4 : decide ((5 : Int) < (cl : Int)) = true := by simp; omega
          have hd5 : (5 : Int) < (cl : Int) := by omega
          clear hx hrk hcI HIo hr hbl hcl HG hbw
          go_wp2_with (refine atIdx 22 ?_; refine wpList_runG (by rfl) _ _ (exec_idxT 22 24 Tryd.underlying22 1 infoSlz2 _ _ rfl b o n cap k rfl rfl HK.out.1) ?_; (try rw [Nat.mul_one]))
          go_ret
          exact ⟨rfl, HBW.out⟩
    · have hlt1 : decide ((k : Int) < (n : Int)) = false := by simp; omega
      obtain rfl : k = n := by omega
      obtain ⟨SA, HSA⟩ : ∃ A, Box (sa j.st = A) := ⟨_, ⟨rfl⟩⟩
      have hoj := HG.out.1.bq.okS
      have HIS : Box ((Tryd.prog.info? 48).map (·.size) = some SA.size ∧ (sa zs).size = SA.size ∧ SA.all (·.oneCell') = true ∧ (Tryd.prog.info? 48).map (·.size) = some (scs j.st).length ∧ (scs j.st).toArray = SA) := ⟨by rw [← HSA.out, size_sa hoj]; exact infoSt, by rw [← HSA.out, size_sa hoj, size_sa okS_zs], by rw [← HSA.out]; exact all_sa j.st, by rw [len_scs hoj]; exact infoSt, by rw [← HSA.out]; rfl⟩
      have HSTA : Box (Calls Tryd.prog 17 #[.pointer (some ⟨J, 0, none⟩)] wo fun e w' => e = .returned (.tuple #[.agg SA, .int .u64 j.nx]) ∧ Below wo.heap.size wo w') := ⟨by
        have := state_any HG.out.1.jc.row HG.out.1.jc.ok
        rw [HSA.out] at this
        exact this⟩
      clear hoj
      go_upto_region 24 with (first
        | (go_at_call 17; refine HSTA.out.mono ?_; rintro e x3 ⟨rfl, q1⟩; have H3 : Box (Below wo.heap.size wo x3) := ⟨q1⟩; clear q1)
        | (refine atAlloc _ ?_; refine wpList_run rfl _ _ (exec_alloc 48 rfl _ zeroSt) ?_)
        | (refine atStore _ ?_; refine wpList_newRow x3 (sa zs) SA HIS.out.1 HIS.out.2.1 HIS.out.2.2.1 rfl _ _ rfl rfl rfl rfl ?_; intro x4 h4 hb4; have H4 : Box (x4.heap[x3.heap.size]? = some (.cells SA 48 (0, 0)) ∧ Below x3.heap.size x3 x4) := ⟨h4, hb4⟩; clear h4 hb4))
      obtain ⟨G, hG⟩ : ∃ G, x3.heap.size = G := ⟨_, rfl⟩
      (try simp only [hG])
      have HB4 : Box (Below wo.heap.size wo x4) := ⟨below_to H3.out H4.out.2⟩
      have HR4 : Box (x4.rangeAt G 0 (scs j.st) ∧ x4.rangeAt S 0 (K.map (Value.int .u8))) := ⟨fun i v hv => by
        have := H4.out.1
        rw [hG] at this
        rw [cell_of_row _ _ _ _ _ _ this, Nat.zero_add, ← HIS.out.2.2.2.2]
        simpa using hv, range_u8 ((HB4.out.block S (Array.getElem?_eq_some_iff.1 HG.out.1.key).1).trans HG.out.1.key)⟩
      clear hG HSTA H3 H4
      have HLD : Box (Calls Tryd.prog 18 #[.pointer (some ⟨D, 0, none⟩), .agg AK, .int .i64 0, .int .i64 20, .agg SA] x4 fun e w' => ∃ fp' a' c' C' B, Disk.Cx x0 w' D fp' (rdD d (pcs 0 20 j.st.start j.st.count)) ∧ Disk.Fol x4 fp w' fp' ∧ e = .returned (.tuple #[.slice a' C'.length c', .int .i64 0]) ∧ Chs w' B (.slice a' C'.length c') C' ∧ plC C' = X) := ⟨by
        have hq := HG.out.1.bq
        have hnn := HN.out.2
        have := load_v (HG.out.1.jc.cx.step HB4.out) K HKU.out.2.2.2 0 20 j.st hq.okS (by omega) (by omega) (by rw [hq.dn]; omega) (by rw [hq.dn]; omega) (by have h1 := HG.out.1.jc.ok.sl; have h2 := HG.out.1.jc.ok.cl; rw [hq.size] at h1 h2; simp [may, h1, h2]) hq.up.1 (by have := hq.ops; omega) (by have := hq.uw; omega) HX.out.2.2.2.1 HX.out.2.2.2.2
        rw [HKU.out.2.2.1, HSA.out] at this
        refine this.mono ?_
        rintro e w' ⟨fp', q1, q2, q3⟩
        obtain ⟨g1, g2⟩ := jn_load hq.jn hq.ne
        rcases q3 with ⟨q3, _⟩ | ⟨_, u, C', B, q4, q5, q6, q7, q8⟩
        · exact absurd g1 q3
        · obtain ⟨a', c', rfl⟩ := own_form2 q5.row
          exact ⟨fp', a', c', C', B, q1, q2, q4, q5, q8.trans g2⟩⟩
      go_upto_region 25 with (first
        | (refine atLoad 39 ?_; refine wpList_ldMid rfl 39 _ _ rfl Tryd.underlying39 rfl S 0 rfl (K.map (Value.int .u8)) HKU.out.1 HR4.out.2 ?_; rw [HKU.out.2.1])
        | (refine atLoad 48 ?_; refine wpList_ldMid rfl 48 _ _ rfl Tryd.underlying48 rfl G 0 rfl (scs j.st) HIS.out.2.2.2.1 HR4.out.1 ?_; rw [HIS.out.2.2.2.2])
        | (go_at_call 18; refine HLD.out.mono ?_; rintro e x5 ⟨fp5, a5, c5, C5, B5, q1, q2, rfl, q3, q4⟩; have H5 : Box (Disk.Cx x0 x5 D fp5 (rdD d (pcs 0 20 j.st.start j.st.count)) ∧ Disk.Fol x4 fp x5 fp5 ∧ Chs x5 B5 (.slice a5 C5.length c5) C5 ∧ plC C5 = X) := ⟨q1, q2, q3, q4⟩; clear q1 q2 q3 q4))
      obtain ⟨T, hTT⟩ : ∃ T, latP X.flatten = T := ⟨_, rfl⟩
      have hfl : (allM C5).map pl = X.flatten := by rw [← plC_flat, H5.out.2.2.2]
      have hlX : X.flatten.length ≤ 20 := by
        have key : ∀ L : List (List (Int × List Int)), (∀ x ∈ L, x.length ≤ 5) → L.flatten.length ≤ 5 * L.length := by
          intro L
          induction L with
          | nil => intro _; simp
          | cons c L ih =>
            intro hh
            have h1 := ih (fun c hc => hh c (by simp [hc]))
            have h2 := hh c (by simp)
            rw [List.flatten_cons, List.length_append, List.length_cons]
            omega
        have h1 := key X HG.out.1.few
        have h2 := HG.out.2
        have h3 := HN.out.2
        omega
      have HTT : Box (latP X.flatten = T ∧ T.length ≤ 20 ∧ Rise T) := ⟨hTT, by rw [← hTT]; have := len_latP X.flatten; omega, by
        rw [← hTT, ← hfl]
        exact (mr_mF (allM C5)).ri⟩
      have HLT : Box (Calls Tryd.prog 10 #[.slice a5 C5.length c5] x5 fun e w' => ∃ ya yc Y, e = .returned (.slice ya T.length yc) ∧ Y.length = T.length ∧ OImgs w' x5.heap.size (.slice ya Y.length yc) Y ∧ Y.map pl = T ∧ Below x5.heap.size x5 w') := ⟨by
        have hcl : ∀ c ∈ C5, c.l ≤ 1000 := fun c hc => by
          have h1 := (H5.out.2.2.1.im c hc).1
          have h2 : c.M.map pl ∈ X := by rw [← H5.out.2.2.2]; exact List.mem_map.2 ⟨c, hc, rfl⟩
          have h3 := HG.out.1.few _ h2
          rw [List.length_map, h1] at h3
          omega
        have hig := H5.out.2.2.1.igss (fun x hx => by have := hcl x hx; unfold maxLen; omega)
        have hC5 : C5.length ≤ 1000 := by
          have h1 := congrArg List.length H5.out.2.2.2
          simp [plC] at h1
          rw [h1, HG.out.2]
          have := HN.out.2
          omega
        have hbl : ∀ m ∈ allM C5, m.bl < 1000000 := fun m hm => by
          obtain ⟨l, hl1, hl2⟩ := List.mem_flatten.1 hm
          obtain ⟨c, hcm, rfl⟩ := List.mem_map.1 hl1
          have h1 := ((H5.out.2.2.1.im c hcm).2.2 m hl2).byi.1.1
          have h2 : pl m ∈ X.flatten := by rw [← hfl]; exact List.mem_map_of_mem hm
          obtain ⟨x, hx1, hx2⟩ := List.mem_flatten.1 h2
          have h3 := HG.out.1.lens x hx1 _ hx2
          have h4 : m.bs.length = 160 := h3
          omega
        refine (latest_v a5 c5 C5 x5 hig hC5 hcl hbl).mono ?_
        rintro e w' ⟨v, Y, rfl, q1, q2, q3⟩
        rw [hfl, HTT.out.1] at q2
        have hlY : Y.length = T.length := by have := congrArg List.length q2; simpa using this
        obtain ⟨ya, yc, rfl⟩ := own_form2 q1.row
        exact ⟨ya, yc, Y, by rw [hlY], hlY, q1, q2, q3⟩⟩
      have HLR : Box (x5.ownsRow x0.heap.size 60 2 u10 T.length (T.map ic).flatten ∧ Below w.heap.size w x5) := ⟨by
        have hr := own_to HG.out.1.row HB4.out
        rw [HTT.out.1] at hr
        refine own_same hr (fun i hi => H5.out.2.1.t.block i (hr.lt i hi).2 (HG.out.1.clr i hi).1), below_to HX.out.1 H5.out.1.bel⟩
      clear hTT hfl hlX HLD HR4 HG hbw
      go_upto_region 26 with (go_at_call 10; refine HLT.out.mono ?_; rintro e x6 ⟨ya, yc, Y, rfl, q1, q2, q3, q4⟩; have H6 : Box (Y.length = T.length ∧ OImgs x6 x5.heap.size (.slice ya Y.length yc) Y ∧ Y.map pl = T ∧ Below x5.heap.size x5 x6) := ⟨q1, q2, q3, q4⟩; clear q1 q2 q3 q4)
      clear HLT
      go_wp2
      go_loopw [21] (fun i wq => ∃ q : Nat, (q ≤ T.length ∨ q = 0) ∧ i = .int .i64 ((q + 1 : Nat) : Int) ∧ Box (Below x6.heap.size x6 wq)) (fun i _ => T.length + 1 - (intOf i).toNat)
      case atStart => exact ⟨0, .inr rfl, rfl, ⟨Below.refl _ _⟩⟩
      case round =>
        obtain ⟨q, hq, rfl, HQ⟩ := hrel
        have hT20 := HTT.out.2.1
        by_cases hql : q + 1 < T.length
        · have hq1 : decide (((q + 1 : Nat) : Int) < (T.length : Int)) = true := by simp; omega
          have hoi := H6.out.2.1.to HQ.out
          obtain ⟨yb, yo, hye, _, hyr⟩ := hoi.imgs.tb (by rw [H6.out.1]; omega)
          subst hye
          have hqa : q < Y.length := by rw [H6.out.1]; omega
          have hqb : q + 1 < Y.length := by rw [H6.out.1]; exact hql
          have hri := (List.pairwise_iff_getElem.1 HTT.out.2.2) q (q + 1) (by omega) hql (by omega)
          have e1 : T[q].1 = Y[q].blk := by
            have := congrArg (fun L => L[q]?) H6.out.2.2.1
            simp [hqa, show q < T.length by omega] at this
            rw [← this]; rfl
          have e2 : T[q + 1].1 = Y[q + 1].blk := by
            have := congrArg (fun L => L[q + 1]?) H6.out.2.2.1
            simp [hqb, hql] at this
            rw [← this]; rfl
          rw [e1, e2] at hri
          have c1 : wr.cell? ⟨yb, yo + q * 2, none⟩ = some (.int .u64 Y[q].blk) := hyr q hqa 0 _ rfl
          have c2 : wr.cell? ⟨yb, yo + (q + 1) * 2, none⟩ = some (.int .u64 Y[q + 1].blk) := hyr (q + 1) hqb 0 _ rfl
          generalize Y[q].blk = b1 at c1 hri
          generalize Y[q + 1].blk = b2 at c2 hri
          have hd2 : decide (b2 ≤ b1) = false := by simp; omega
          have hw1 : IntKind.i64.wrap (((q + 1 : Nat) : Int) - 1) = (q : Int) := by rw [IntKind.wrap_i64]; omega
          have hw4 : IntKind.i64.wrap (((q + 1 : Nat) : Int) + 1) = ((q + 1 + 1 : Nat) : Int) := by rw [IntKind.wrap_i64]; omega
          have hq2 : q < T.length := by omega
          obtain ⟨r, hr⟩ : ∃ r, q + 1 = r := ⟨_, rfl⟩
          have HRQ : Box (q + 1 = r ∧ r < T.length) := ⟨hr, by omega⟩
          have hrl : r < T.length := by omega
          have HNW : Box (∀ m, Below x6.heap.size x6 (wr.drewN m)) := ⟨fun m => below_drewN HQ.out m⟩
          simp only [hr] at *
          clear hyr hoi hri e1 e2 hr hqa hqb hql
          go_upto_region 29 with fail
          go_quiet (fail)
          obtain ⟨x7, hx7⟩ : ∃ x7, wr.drewN nq = x7 := ⟨_, rfl⟩
          have H7 : Box (Below x6.heap.size x6 x7) := ⟨by rw [← hx7]; exact HNW.out nq⟩
          rw [hx7]
          clear hx7
          go_wp2
          go_roundw
          case rel => exact ⟨r, .inl (by omega), by first | rfl | go_num, H7⟩
          case measure => simp [intOf]; omega
        · have hq1 : decide (((q + 1 : Nat) : Int) < (T.length : Int)) = false := by simp; omega
          have HMO : Box (Calls Tryd.prog 12 #[.slice ya T.length yc] wr fun e w' => ∃ ma mc, e = .returned (.slice ma T.length mc) ∧ Tb w' ma 2 ic T ∧ Below wr.heap.size wr w') := ⟨by
            have := modelOf_any ya yc Y wr (H6.out.2.1.to HQ.out).imgs (by rw [H6.out.1]; omega)
            rw [H6.out.1] at this
            refine this.mono ?_
            rintro e w' ⟨v, rfl, hm⟩
            have hrow := hm.row
            rw [H6.out.2.2.1, List.take_of_length_le (Nat.le_refl _)] at hrow
            obtain ⟨ma, mc, rfl⟩ := own_form2 hrow
            exact ⟨ma, mc, rfl, own_tb (fun _ => rfl) hrow rfl, hm.bel⟩⟩
          obtain ⟨ua, uc, rfl⟩ := own_form2 HLR.out.1
          have HSM : Box (∀ (x : World) (ma : Option Addr) (mc : Nat), Below wr.heap.size wr x → Tb x ma 2 ic T → Calls Tryd.prog 11 #[.slice ma T.length mc, .slice ua T.length uc] x fun e w' => e = .returned (.bool true) ∧ Below w.heap.size w w') := ⟨fun x ma mc hx ht => by
            have hb5 := below_to H6.out.2.2.2 (below_to HQ.out hx)
            exact (rsame_any ma ua mc uc T x ht (own_tb (fun _ => rfl) (own_to HLR.out.1 hb5) rfl) (by omega)).mono fun e w' ⟨h1, h2⟩ => ⟨h1, below_to HLR.out.2 (below_to hb5 h2)⟩⟩
          clear hq hT20 HQ
          go_wp2_with (first
            | (go_at_call 12; refine HMO.out.mono ?_; rintro e x7 ⟨ma, mc, rfl, q1, q2⟩; have HS7 : Box _ := ⟨HSM.out x7 ma mc q2 q1⟩; clear q1 q2)
            | (go_at_call 11; refine HS7.out.mono ?_; rintro e x8 ⟨rfl, q1⟩; have H8 : Box (Below w.heap.size w x8) := ⟨q1⟩; clear q1))
          go_ret
          exact ⟨rfl, H8.out⟩
theorem replayOld_walk (K : List Int) (a : Option Addr) (cap : Nat) (C : List Sx) (w : World) (hT : Dig.Tabs w) (hT2 : Seal.Tab w) (hl : K.length = 32) (hD : Byt K) (h : Igss w a C) (y : C.length ≤ maxLen) :
    Calls Tryd.prog 5 #[.agg (u8s K), .slice a C.length cap] w fun e w' => e = .returned (.bool true) ∧ Below w.heap.size w w' := by
  unfold maxLen at y
  by_cases h4 : C.length ≤ 4
  · exact replayOld_core K ⟨hl, hD⟩ a cap C w hT hT2 h h4
  · exact replayOld_far K a C.length cap w hT hT2 h4 (by omega)
end Go.Proofs.YteaejodihmnbcaaDoor
