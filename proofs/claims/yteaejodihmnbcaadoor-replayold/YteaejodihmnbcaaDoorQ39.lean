/-
  ReplayBack: changes that were appended and adopted are loaded as they were.
-/
import Derived.Test.YteaejodihmnbcaaDoorQ36
import Derived.Test.YteaejodihmnbcaaDoorQ38
namespace Go.Proofs.YteaejodihmnbcaaDoor
set_option maxRecDepth 100000
set_option linter.unusedVariables false
open Go.RowKit Plain
attribute [local go_sem] Oper.semAt_some
/-- What the law hands on of a change. -/
theorem img_ok {w w' : World} {M : List Im} {v : Value} {X : List Im} (h : Ig w w' false M M.length v X) (hM : ∀ m ∈ M, Byt m.bs) : ∀ x ∈ X.map pl, x.2.length = 160 ∧ Byt x.2 ∧ N64 x.1 := by
  intro x hx
  obtain ⟨m, hm, rfl⟩ := List.mem_map.1 hx
  have o := h.im.byt m hm
  refine ⟨?_, o.byt, o.num⟩
  have hx2 := hx
  rw [h.pls, List.take_of_length_le (by simp [len_imgP])] at hx2
  obtain ⟨i, hi, e⟩ := List.getElem_of_mem hx2
  rw [len_imgP] at hi
  rw [get_imgP false (M.map pl) i hi] at e
  rw [← e]
  simp only [length_padTo]
  unfold szP
  rw [if_neg (by simp)]
theorem img_bl {w w' : World} {M : List Im} {v : Value} {X : List Im} (h : Ig w w' false M M.length v X) (hM : ∀ m ∈ M, Byt m.bs) : ∀ m ∈ X, m.bl = 160 := by
  intro m hm
  have h1 := (img_ok h hM (pl m) (List.mem_map_of_mem hm)).1
  have h2 := (h.im.byt m hm).byi.1.1
  rw [← h2]
  exact h1
theorem OImgs.same {w w' : World} {B : Nat} {v : Value} {M : List Im} (h : OImgs w B v M) (hs : ∀ k, B ≤ k → k < w.heap.size → w'.heap[k]? = w.heap[k]?) : OImgs w' B v M :=
  ⟨own_same h.row (fun k hk => hs k (own_blk h.row k hk).1 (h.row.lt k hk).2), fun m hm => ⟨own_same (h.byt m hm).own (fun k hk => hs k (own_blk (h.byt m hm).own k hk).1 ((h.byt m hm).own.lt k hk).2), (h.byt m hm).byt, (h.byt m hm).num⟩⟩
theorem replayBack_far (K : List Int) (b : Int) (a : Option Addr) (n cap : Nat) (w : World) (hT : Dig.Tabs w) (hT2 : Seal.Tab w) (hn : ¬ n ≤ 4) (hm : n ≤ 9223372036854775807) :
    Calls Tryd.prog 4 #[.agg (u8s K), .int .u8 b, .slice a n cap] w fun e w' => e = .returned (.bool true) ∧ Below w.heap.size w w' := by
  obtain ⟨w1, hw1⟩ : ∃ w1, w.alloc (.cells (u8s K) 39) = w1 := ⟨_, rfl⟩
  have hb1 : Below w.heap.size w w1 := by rw [← hw1]; exact (Below.refl _ _).alloc (Nat.le_refl _) _
  have HA : Box (Calls Tryd.prog 6 #[] w1 fun e w' => e = .returned (.bool true) ∧ Below w1.heap.size w1 w') := ⟨awake14_v w1 (hT.below hb1) (hT2.below hb1)⟩
  have HB : Box (Below w.heap.size w w1) := ⟨hb1⟩
  have hg : decide ((4 : Int) < (n : Int)) = true := by simp; omega
  have hg2 : (4 : Int) < (n : Int) := by omega
  obtain ⟨AK, hAK⟩ : ∃ A, u8s K = A := ⟨_, rfl⟩
  rw [hAK] at hw1 ⊢
  clear hT hT2 hb1 hAK
  go_enter Tryd.func4, Tryd.ntmps4
  go_upto_region 1 with fail
  (try rw [hw1])
  clear hw1
  go_wp2_with (go_at_call 6; refine HA.out.mono ?_; rintro e x1 ⟨rfl, hb⟩; have H1 : Box (Below w1.heap.size w1 x1) := ⟨hb⟩; clear hb)
  go_ret
  exact ⟨rfl, below_to HB.out H1.out⟩
set_option maxHeartbeats 16000000 in
theorem replayBack_core (K : List Int) (hK : K.length = 32 ∧ Byt K) (bv : Nat) (hbv : bv ≤ 255) (a : Option Addr) (cap : Nat) (C : List Sx) (w : World) (hT : Dig.Tabs w) (hT2 : Seal.Tab w) (h : Igss w a C) (hl4 : C.length ≤ 4) :
    Calls Tryd.prog 4 #[.agg (u8s K), .int .u8 (bv : Int), .slice a C.length cap] w fun e w' => e = .returned (.bool true) ∧ Below w.heap.size w w' := by
  obtain ⟨n, hn⟩ : ∃ n, C.length = n := ⟨_, rfl⟩
  obtain ⟨S, hS⟩ : ∃ S, w.heap.size = S := ⟨_, rfl⟩
  obtain ⟨AK, hAK⟩ : ∃ A, u8s K = A := ⟨_, rfl⟩
  obtain ⟨w1, hw1⟩ : ∃ w1, w.alloc (.cells AK 39) = w1 := ⟨_, rfl⟩
  have hb1 : Below w.heap.size w w1 := by rw [← hw1]; exact (Below.refl _ _).alloc (Nat.le_refl _) _
  have k1 : w1.heap[S]? = some (.cells (u8s K) 39 (0, 0)) := by rw [← hw1, hAK]; exact al_at hS
  have HA : Box (Calls Tryd.prog 6 #[] w1 fun e w' => e = .returned (.bool true) ∧ Below w1.heap.size w1 w') := ⟨awake14_v w1 (hT.below hb1) (hT2.below hb1)⟩
  have H0 : Box (Below w.heap.size w w1 ∧ w1.heap[S]? = some (.cells (u8s K) 39 (0, 0)) ∧ w.heap.size = S) := ⟨hb1, k1, hS⟩
  have HT : Box (∀ x, Below w.heap.size w x → Dig.Tabs x ∧ Seal.Tab x ∧ Igss x a C) := ⟨fun x hx => ⟨hT.below hx, hT2.below hx, h.below hx⟩⟩
  have HN : Box (C.length = n ∧ n ≤ 4) := ⟨hn, by omega⟩
  have HKU : Box ((Tryd.prog.info? 39).map (·.size) = some (K.map (Value.int .u8)).length ∧ (K.map (Value.int .u8)).toArray = AK ∧ u8s K = AK ∧ K.length = 32 ∧ Byt K) := ⟨by rw [List.length_map, hK.1]; exact infoSum, by rw [← hAK]; rfl, hAK, hK⟩
  have hg2 : ¬ (4 : Int) < (n : Int) := by omega
  obtain ⟨st, hst⟩ : ∃ st, bv % 16 = st := ⟨_, rfl⟩
  have hst16 : st < 16 := by omega
  have hr1 : ((bv : Int)).tmod 16 = (st : Int) := by rw [← hst]; rfl
  have hr2 : (bv : Int) % 16 = (st : Int) := by rw [← hst]; rfl
  have hr3 : IntKind.u8.wrap (st : Int) = (st : Int) := by simp [IntKind.wrap, IntKind.bits, IntKind.signed]; omega
  have hr4 : IntKind.u64.wrap (st : Int) = (st : Int) := by rw [IntKind.wrap_u64]; omega
  have HST16 : Box (st < 16) := ⟨hst16⟩
  rw [hAK, hn]
  clear hT hT2 hb1 hAK k1 hS hn h hl4 hK hst hbv hst16
  go_enter Tryd.func4, Tryd.ntmps4
  go_upto_region 1 with fail
  (try simp only [H0.out.2.2])
  clear hw1
  go_upto_region 6 with (go_at_call 6; refine HA.out.mono ?_; rintro e x0 ⟨rfl, hb⟩; have HX0 : Box (Below w1.heap.size w1 x0) := ⟨hb⟩; clear hb)
  clear HA
  obtain ⟨D, hD⟩ : ∃ D, x0.heap.size + 1 = D := ⟨_, rfl⟩
  have HX : Box (Below w.heap.size w x0 ∧ x0.heap[S]? = some (.cells (u8s K) 39 (0, 0)) ∧ S < x0.heap.size ∧ Dig.Tabs x0 ∧ Seal.Tab x0) := ⟨by
    have hb := below_to H0.out.1 HX0.out
    have hl := (Array.getElem?_eq_some_iff.1 H0.out.2.1).1
    have := HX0.out.size
    exact ⟨hb, (HX0.out.block S hl).trans H0.out.2.1, by omega, (HT.out x0 hb).1, (HT.out x0 hb).2.1⟩⟩
  have HD : Box (Calls Tryd.prog 13 #[.int .i64 20] x0 fun e w' => e = .returned (.tuple #[.pointer (some ⟨D, 0, none⟩), .int .i64 0]) ∧ ∃ fp, Disk.Cx x0 w' D fp (Disk.dk0 20)) := ⟨by have := Disk.new_cx x0 20 ⟨by omega, by omega⟩; rw [hD] at this; exact this⟩
  obtain ⟨d0, hd0⟩ : ∃ d0, Disk.dk0 20 = d0 := ⟨_, rfl⟩
  rw [hd0] at HD
  have HBS : Box (Bq K 3 16 20 4 0 ⟨K, 3, 16, ⟨st, 0, z32⟩, 1, 1099511627776⟩ d0 []) := ⟨by rw [← hd0]; exact bq_start K 3 16 20 4 st HST16.out (by omega) (by omega)⟩
  clear hD hd0
  go_upto_region 7 with (go_at_call 13; refine HD.out.mono ?_; rintro e x1 ⟨rfl, fp1, hc⟩; have H1 : Box (Disk.Cx x0 x1 D fp1 d0) := ⟨hc⟩; clear hc)
  obtain ⟨SZ, HSZ⟩ : ∃ A, Box (sa ⟨st, 0, z32⟩ = A) := ⟨_, ⟨rfl⟩⟩
  have HJN : Box (Calls Tryd.prog 14 #[.pointer (some ⟨D, 0, none⟩), .agg AK, .int .i64 3, .int .i64 16, .agg SZ, .int .u64 1, .int .u64 1099511627776] x1 fun e w' => ∃ J, e = .returned (.tuple #[.pointer (some ⟨J, 0, none⟩), .int .i64 0]) ∧ JC x0 w' J D fp1 ⟨K, 3, 16, ⟨st, 0, z32⟩, 1, 1099511627776⟩ d0 ∧ Below x1.heap.size x1 w' ∧ x1.heap.size ≤ J) := ⟨by
    have hq := HBS.out.dn
    have := jnew_ok H1.out K HKU.out.2.2.2 3 16 (by omega) (by omega) (by omega) ⟨st, 0, z32⟩ HBS.out.okS (by have := HST16.out; simp [may, this]) 1 1099511627776 ⟨by omega, by omega⟩ ⟨by omega, by omega⟩ HX.out.2.2.2.1 HX.out.2.2.2.2
    rw [HKU.out.2.2.1, HSZ.out] at this
    exact this⟩
  have HR1 : Box (x1.rangeAt S 0 (K.map (Value.int .u8))) := ⟨range_u8 ((H1.out.bel.block S HX.out.2.2.1).trans HX.out.2.1)⟩
  clear HD
  go_upto_region 12 with (first
    | (refine atLoad 39 ?_; refine wpList_ldMid rfl 39 _ _ rfl Tryd.underlying39 rfl S 0 rfl (K.map (Value.int .u8)) HKU.out.1 HR1.out ?_; rw [HKU.out.2.1])
    | (refine atBuild 48 ?_; refine wpList_run rfl _ _ (exec_built 48 [(0, .tmp 36)] rfl [(0, .int .u64 (st : Int))] rfl SZ (by rw [← HSZ.out]; exact built_St1 st)) ?_)
    | (go_at_call 14; refine HJN.out.mono ?_; rintro e x2 ⟨J, rfl, q1, q2, q3⟩; have H2 : Box (JC x0 x2 J D fp1 ⟨K, 3, 16, ⟨st, 0, z32⟩, 1, 1099511627776⟩ d0 ∧ Below x1.heap.size x1 x2) := ⟨q1, q2⟩; clear q1 q2 q3))
  have HLP : Box (BkW x0 x2 S J D K 3 16 20 4 0 fp1 ⟨K, 3, 16, ⟨st, 0, z32⟩, 1, 1099511627776⟩ d0 [] (.slice none 0 0) [] ∧ (plC C).take 0 = []) := ⟨⟨H2.out.1, HBS.out, wnt_nil _ _, ⟨fun g hg => (by cases hg), fun x hx => (by simp at hx)⟩, rfl, (H2.out.1.cx.bel.block S HX.out.2.2.1).trans HX.out.2.1, HX.out.2.2.1⟩, rfl⟩
  clear HJN H1 H2 HR1 HBS HSZ
  go_loopw [12, 13] (fun u i wr => ∃ (k : Nat) (fp : Nat → Prop) (j : Jt) (d : Disk.Dk) (X : List (List (Int × List Int))) (Wn : List Wx), k ≤ n ∧ i = .int .i64 (k : Int) ∧ Box (BkW x0 wr S J D K 3 16 20 4 k fp j d X u Wn ∧ X.length = k)) (fun _ i _ => n - (intOf i).toNat)
  case atStart => exact ⟨0, fp1, _, d0, [], [], Nat.zero_le _, rfl, ⟨HLP.out.1, rfl⟩⟩
  case round =>
    clear HLP
    obtain ⟨k, fp, j, d, X, Wn, hk, rfl, HG⟩ := hrel
    have hbw : Below w.heap.size w wr := below_to HX.out.1 HG.out.1.jc.cx.bel
    have HBW : Box (Below w.heap.size w wr) := ⟨hbw⟩
    by_cases hlt : k < n
    · have hlt1 : decide ((k : Int) < (n : Int)) = true := by simp; omega
      have hkC : k < C.length := by rw [HN.out.1]; exact hlt
      have HK : Box (k < n ∧ n ≤ 4) := ⟨hlt, HN.out.2⟩
      have HIo := (HT.out wr hbw).2.2
      obtain ⟨b, o, hae, hbl, hr⟩ := HIo.tb (by omega)
      subst hae
      have hrk := hr k hkC
      obtain ⟨hcl, hcI, hcm⟩ := HIo.im C[k] (List.getElem_mem hkC)
      obtain ⟨⟨ca, cl, cc, CM⟩, hx⟩ : ∃ c, C[k] = c := ⟨_, rfl⟩
      rw [hx] at hrk hcl hcI hcm
      dsimp only at hcl hcI hcm
      have c0 : wr.cell? ⟨b, o + k, none⟩ = some (.slice ca cl cc) := by have := hrk 0 _ rfl; rwa [Nat.mul_one, Nat.add_zero] at this
      unfold maxLen at hcm
      by_cases h4 : cl ≤ 4
      · have hd4 : decide ((4 : Int) < (cl : Int)) = false := by simp; omega
        have hd5 : ¬ (4 : Int) < (cl : Int) := by omega
        have HIM : Box (Calls Tryd.prog 7 #[.slice ca cl cc, .bool false] wr fun e w' => ∃ a1 c1 XI, e = .returned (.slice a1 cl c1) ∧ XI.length = cl ∧ OImgs w' wr.heap.size (.slice a1 XI.length c1) XI ∧ (∀ x ∈ XI.map pl, x.2.length = 160 ∧ Byt x.2 ∧ N64 x.1) ∧ (∀ m ∈ XI, m.bl ≤ 100000) ∧ Below wr.heap.size wr w') := ⟨by
          have := images_any ca cc CM false wr hcI (by omega)
          rw [hcl] at this
          refine this.mono ?_
          rintro e w' ⟨v, XI, rfl, hig⟩
          have hlX : XI.length = cl := hig.len
          have hig2 : Ig wr w' false CM CM.length v XI := by rw [hcl]; exact hig
          have hB : ∀ m ∈ CM, Byt m.bs := fun m hm => (hcI.byt m hm).1.2.1
          obtain ⟨a1, c1, rfl⟩ := own_form2 hig.im.row
          refine ⟨a1, c1, XI, by rw [hlX], hlX, hig.im, img_ok hig2 hB, fun m hm => by rw [img_bl hig2 hB m hm]; omega, hig.bel⟩⟩
        clear hx hrk hcI HIo hr hbl h4 hcl
        go_upto_region 17 with (first
          | (refine atIdx 22 ?_; refine wpList_run rfl _ _ (exec_idxT 22 24 Tryd.underlying22 1 infoSlz2 _ _ rfl b o n cap k rfl rfl HK.out.1) ?_; (try rw [Nat.mul_one]))
          | (go_at_call 7; refine HIM.out.mono ?_; rintro e x3 ⟨a3, c3, XI, rfl, q1, q2, q3, q4, q5⟩; have H3 : Box (XI.length = cl ∧ OImgs x3 wr.heap.size (.slice a3 XI.length c3) XI ∧ (∀ x ∈ XI.map pl, x.2.length = 160 ∧ Byt x.2 ∧ N64 x.1) ∧ (∀ m ∈ XI, m.bl ≤ 100000) ∧ Below wr.heap.size wr x3) := ⟨q1, q2, q3, q4, q5⟩; clear q1 q2 q3 q4 q5))
        clear HIM c0
        have HBQ : Box (Bq K 3 16 20 4 k j d X) := ⟨HG.out.1.bq⟩
        have HAP : Box (Calls Tryd.prog 15 #[.pointer (some ⟨J, 0, none⟩), .slice a3 cl c3] x3 fun e w' => ApV x0 x3 J D fp j (appM j d (XI.map pl)) e w') := ⟨by
          have hq := HBQ.out
          have hk4 := HK.out
          have := append_v (HG.out.1.jc.below H3.out.2.2.2.2) a3 c3 XI H3.out.2.1.imgs (by rw [H3.out.1]; omega) H3.out.2.2.2.1 hq.left (by have := hq.ops; omega) (by have := hq.uw; omega)
          rw [H3.out.1] at this
          exact this⟩
        by_cases h0 : cl = 0
        · subst h0
          have hXI : XI = [] := List.eq_nil_of_length_eq_zero H3.out.1
          have HA2 : Box (Calls Tryd.prog 15 #[.pointer (some ⟨J, 0, none⟩), .slice a3 0 c3] x3 fun e w' => e = .returned (.tuple #[.agg (sa zs), .int .i64 1]) ∧ Below w.heap.size w w') := ⟨by
            refine HAP.out.mono ?_
            rintro e w' ⟨fp', q1, q2, q3⟩
            have e1 : appM j d (XI.map pl) = (d, j.nx, 1, zs) := by rw [hXI]; rfl
            rw [e1] at q1 q2
            exact ⟨q1, below_to HX.out.1 q2.cx.bel⟩⟩
          have HIZ : Box ((Tryd.prog.info? 48).map (·.size) = some (sa zs).size) := ⟨by rw [size_sa okS_zs]; exact infoSt⟩
          clear HAP hXI
          go_wp2_with (first
            | (go_at_call 15; refine HA2.out.mono ?_; rintro e x4 ⟨rfl, q1⟩; have H4 : Box (Below w.heap.size w x4) := ⟨q1⟩; clear q1)
            | (refine atAlloc _ ?_; refine wpList_run rfl _ _ (exec_alloc 48 rfl _ zeroSt) ?_)
            | (refine atStore _ ?_; refine wpList_newRow x4 (sa zs) (sa zs) HIZ.out rfl (all_sa zs) rfl _ _ rfl rfl rfl rfl ?_; intro x5 h5 hb5; have H5 : Box (Below w.heap.size w x5) := ⟨below_to H4.out hb5⟩; clear h5 hb5))
          go_ret
          exact ⟨rfl, H5.out⟩
        · have hd6 : ((cl : Int) == 0) = false := by simp; omega
          have hne : XI.map pl ≠ [] := fun e => h0 (by have := congrArg List.length e; simp at this; rw [← H3.out.1, this]; rfl)
          have hstp := HBQ.out.step HG.out.1.jc.ok (XI.map pl) hne (by rw [List.length_map, H3.out.1]; omega) H3.out.2.2.1 (by have := HK.out; omega) (by omega)
          obtain ⟨y, hy⟩ : ∃ y, appM j d (XI.map pl) = y := ⟨_, rfl⟩
          rw [hy] at hstp HAP
          obtain ⟨y1, y2, y3, y4⟩ := y
          dsimp only at hstp
          obtain ⟨rfl, hoy, hxy, hby⟩ := hstp
          have HY : Box (OkS y4 ∧ (1 ≤ y2 ∧ y2 ≤ 18446744073709551615) ∧ Bq K 3 16 20 4 (k + 1) (adp { j with nx := y2 } y4 1099511627776) y1 (X ++ [XI.map pl])) := ⟨hoy, hxy, hby⟩
          obtain ⟨SA, HSA⟩ : ∃ A, Box (sa y4 = A) := ⟨_, ⟨rfl⟩⟩
          have HIS : Box ((Tryd.prog.info? 48).map (·.size) = some SA.size ∧ (sa zs).size = SA.size ∧ SA.all (·.oneCell') = true ∧ (Tryd.prog.info? 48).map (·.size) = some (scs y4).length ∧ (scs y4).toArray = SA) := ⟨by rw [← HSA.out, size_sa hoy]; exact infoSt, by rw [← HSA.out, size_sa hoy, size_sa okS_zs], by rw [← HSA.out]; exact all_sa y4, by rw [len_scs hoy]; exact infoSt, by rw [← HSA.out]; rfl⟩
          have HA2 : Box (Calls Tryd.prog 15 #[.pointer (some ⟨J, 0, none⟩), .slice a3 cl c3] x3 fun e w' => e = .returned (.tuple #[.agg SA, .int .i64 0]) ∧ ∃ fp', JC x0 w' J D fp' { j with nx := y2 } y1 ∧ Fw (fun k => k = J) x3 w' fp fp') := ⟨by
            refine HAP.out.mono ?_
            rintro e w' ⟨fp', q1, q2, q3⟩
            exact ⟨by rw [q1, HSA.out], fp', q2, q3⟩⟩
          clear HAP hoy hxy hby hy hne
          go_upto_region 22 with (first
            | (go_at_call 15; refine HA2.out.mono ?_; rintro e x4 ⟨rfl, fp4, q1, q2⟩; have H4 : Box (JC x0 x4 J D fp4 { j with nx := y2 } y1 ∧ Fw (fun k => k = J) x3 x4 fp fp4) := ⟨q1, q2⟩; clear q1 q2)
            | (refine atAlloc _ ?_; refine wpList_run rfl _ _ (exec_alloc 48 rfl _ zeroSt) ?_)
            | (refine atStore _ ?_; refine wpList_newRow x4 (sa zs) SA HIS.out.1 HIS.out.2.1 HIS.out.2.2.1 rfl _ _ rfl rfl rfl rfl ?_; intro x5 h5 hb5; have H5 : Box (x5.heap[x4.heap.size]? = some (.cells SA 48 (0, 0)) ∧ Below x4.heap.size x4 x5) := ⟨h5, hb5⟩; clear h5 hb5))
          clear HA2
          obtain ⟨G, hG⟩ : ∃ G, x4.heap.size = G := ⟨_, rfl⟩
          (try simp only [hG])
          have HR5 : Box (x5.rangeAt G 0 (scs y4)) := ⟨fun i v hv => by
            have := H5.out.1
            rw [hG] at this
            rw [cell_of_row _ _ _ _ _ _ this, Nat.zero_add, ← HIS.out.2.2.2.2]
            simpa using hv⟩
          clear hG
          have HAD : Box (Calls Tryd.prog 16 #[.pointer (some ⟨J, 0, none⟩), .agg SA, .int .u64 1099511627776] x5 fun e w' => e = .returned (.tuple #[]) ∧ JC x0 w' J D fp4 (adp { j with nx := y2 } y4 1099511627776) y1 ∧ Fw (fun k => k = J) x3 w' fp fp4) := ⟨by
            have := adopt_v (H4.out.1.below H5.out.2) y4 HY.out.1 1099511627776 ⟨by omega, by omega⟩
            rw [HSA.out] at this
            refine this.mono ?_
            rintro e w' ⟨q1, q2, q3⟩
            exact ⟨q1, q2, H4.out.2.trans ((Fw.below _ fp4 H5.out.2).trans q3)⟩⟩
          go_upto_region 23 with (first
            | (refine atLoad 48 ?_; refine wpList_ldMid rfl 48 _ _ rfl Tryd.underlying48 rfl G 0 rfl (scs y4) HIS.out.2.2.2.1 HR5.out ?_; rw [HIS.out.2.2.2.2])
            | (go_at_call 16; refine HAD.out.mono ?_; rintro e x6 ⟨rfl, q1, q2⟩; have H6 : Box (JC x0 x6 J D fp4 (adp { j with nx := y2 } y4 1099511627776) y1 ∧ Fw (fun k => k = J) x3 x6 fp fp4) := ⟨q1, q2⟩; clear q1 q2))
          clear HAD HR5 H5 H4
          have HF6 : Box (Fw (fun k => k = J) wr x6 fp fp4) := ⟨(Fw.below _ fp H3.out.2.2.2.2).trans H6.out.2⟩
          have HMO : Box (Calls Tryd.prog 12 #[.slice a3 cl c3] x6 fun e w' => ∃ a' c', e = .returned (.slice a' cl c') ∧ w'.ownsRow x6.heap.size 60 2 (.slice a' cl c') cl ((XI.map pl).map ic).flatten ∧ Below x6.heap.size x6 w') := ⟨by
            have ho : OImgs x6 wr.heap.size (.slice a3 XI.length c3) XI := H3.out.2.1.same (fun i h1 h2 => H6.out.2.block h2 (fun hf => by have := HG.out.1.jc.cx.hi i hf; omega) (by have := HG.out.1.jc.lt; omega))
            have := modelOf_any a3 c3 XI x6 ho.imgs (by rw [H3.out.1]; have := HK.out; omega)
            rw [H3.out.1] at this
            refine this.mono ?_
            rintro e w' ⟨v, rfl, hm⟩
            have hrow := hm.row
            rw [List.take_of_length_le (by rw [List.length_map, H3.out.1]; exact Nat.le_refl _)] at hrow
            obtain ⟨a', c', rfl⟩ := own_form2 hrow
            exact ⟨a', c', rfl, hrow, hm.bel⟩⟩
          have HST : Box (∀ (x7 x8 : World) (a7 : Option Addr) (c7 : Nat) (u' : Value), Below x6.heap.size x6 x7 → x7.ownsRow x6.heap.size 60 2 (.slice a7 cl c7) cl ((XI.map pl).map ic).flatten → x8.ownsRow x0.heap.size 26 1 u' (Wn.length + 1) ((Wn.map wsl).flatten ++ [.slice a7 cl c7]) → x7.grownBy x8 u12.ownBlock → (∀ k, u'.ownBlock = some k → u12.ownBlock = some k ∨ x7.heap.size ≤ k) → ∃ fp j d X Wn, BkW x0 x8 S J D K 3 16 20 4 (k + 1) fp j d X u' Wn ∧ X.length = k + 1) := ⟨fun x7 x8 a7 c7 u' h1 h2 h3 h4 h5 => ⟨_, _, _, _, _, HG.out.1.step HF6.out H6.out.1 (XI.map pl) HY.out.2.2 x7 h1 a7 cl c7 (by rw [List.length_map, H3.out.1]) h2 h3 h4 h5, by simp [HG.out.2]⟩⟩
          have HOW : Box (∀ x7, Below x6.heap.size x6 x7 → x7.ownsRow x0.heap.size 26 1 u12 Wn.length (Wn.map wsl).flatten ∧ x0.heap.size ≤ x7.heap.size) := ⟨fun x7 hx7 => ⟨own_to (HG.out.1.wn.fw HG.out.1.clr HF6.out).1.row hx7, Nat.le_trans H6.out.1.cx.bel.size hx7.size⟩⟩
          have HWL : Box (Wn.length ≤ 1000000) := ⟨by rw [HG.out.1.wl, HG.out.2]; have := HK.out; omega⟩
          have hw4 : IntKind.i64.wrap ((k : Int) + 1) = ((k + 1 : Nat) : Int) := by have := HK.out; rw [IntKind.wrap_i64]; omega
          clear HG hbw
          go_wp2_with (first
            | (go_at_call 12; refine HMO.out.mono ?_; rintro e x7 ⟨a7, c7, rfl, q1, q2⟩; have H7 : Box (x7.ownsRow x6.heap.size 60 2 (.slice a7 cl c7) cl ((XI.map pl).map ic).flatten ∧ Below x6.heap.size x6 x7) := ⟨q1, q2⟩; have HO7 : Box _ := ⟨HOW.out x7 q2⟩; clear q1 q2)
            | (at_builtin; refine wpList_appS 28 26 Tryd.underlying28 1 24 _ infSlI rfl (by decide) rfl (.tmp 76) (.tmp 79) rfl x0.heap.size Wn.length u12 (Wn.map wsl).flatten [.slice a7 cl c7] x7 rfl rfl rfl HO7.out.1 rfl (by simp [Value.oneCell']) HWL.out (by decide) HO7.out.2 ?_; intro v8 x8 q1 q2 q3; have H8 : Box (∃ fp j d X Wn, BkW x0 x8 S J D K 3 16 20 4 (k + 1) fp j d X v8 Wn ∧ X.length = k + 1) := ⟨HST.out x7 x8 a7 c7 v8 H7.out.2 H7.out.1 q1 q2 q3⟩; clear q1 q2 q3))
          go_roundw
          case rel =>
            obtain ⟨fp', j', d', X', Wn', h8⟩ := H8.out
            exact ⟨k + 1, fp', j', d', X', Wn', by have := HK.out; omega, by go_num, ⟨h8⟩⟩
          case measure => have := HK.out; simp [intOf]; omega
      · have hd4 : decide ((4 : Int) < (cl : Int)) = true := by simp; omega
        have hd5 : (4 : Int) < (cl : Int) := by omega
        clear hx hrk hcI HIo hr hbl hcl HG hbw
        go_wp2_with (refine atIdx 22 ?_; refine wpList_run rfl _ _ (exec_idxT 22 24 Tryd.underlying22 1 infoSlz2 _ _ rfl b o n cap k rfl rfl HK.out.1) ?_; (try rw [Nat.mul_one]))
        go_ret
        exact ⟨rfl, HBW.out⟩
    · have hlt1 : decide ((k : Int) < (n : Int)) = false := by simp; omega
      obtain rfl : k = n := by omega
      obtain ⟨SA, HSA⟩ : ∃ A, Box (sa j.st = A) := ⟨_, ⟨rfl⟩⟩
      have hoj := HG.out.1.bq.okS
      have HIS : Box ((Tryd.prog.info? 48).map (·.size) = some SA.size ∧ (sa zs).size = SA.size ∧ SA.all (·.oneCell') = true ∧ (Tryd.prog.info? 48).map (·.size) = some (scs j.st).length ∧ (scs j.st).toArray = SA) := ⟨by rw [← HSA.out, size_sa hoj]; exact infoSt, by rw [← HSA.out, size_sa hoj, size_sa okS_zs], by rw [← HSA.out]; exact all_sa j.st, by rw [len_scs hoj]; exact infoSt, by rw [← HSA.out]; rfl⟩
      have HSTA : Box (Calls Tryd.prog 17 #[.pointer (some ⟨J, 0, none⟩)] wr fun e w' => e = .returned (.tuple #[.agg SA, .int .u64 j.nx]) ∧ Below wr.heap.size wr w') := ⟨by
        have := state_any HG.out.1.jc.row HG.out.1.jc.ok
        rw [HSA.out] at this
        exact this⟩
      clear hoj
      go_upto_region 25 with (first
        | (go_at_call 17; refine HSTA.out.mono ?_; rintro e x3 ⟨rfl, q1⟩; have H3 : Box (Below wr.heap.size wr x3) := ⟨q1⟩; clear q1)
        | (refine atAlloc _ ?_; refine wpList_run rfl _ _ (exec_alloc 48 rfl _ zeroSt) ?_)
        | (refine atStore _ ?_; refine wpList_newRow x3 (sa zs) SA HIS.out.1 HIS.out.2.1 HIS.out.2.2.1 rfl _ _ rfl rfl rfl rfl ?_; intro x4 h4 hb4; have H4 : Box (x4.heap[x3.heap.size]? = some (.cells SA 48 (0, 0)) ∧ Below x3.heap.size x3 x4) := ⟨h4, hb4⟩; clear h4 hb4))
      obtain ⟨G, hG⟩ : ∃ G, x3.heap.size = G := ⟨_, rfl⟩
      (try simp only [hG])
      have HB4 : Box (Below wr.heap.size wr x4) := ⟨below_to H3.out H4.out.2⟩
      have HR4 : Box (x4.rangeAt G 0 (scs j.st) ∧ x4.rangeAt S 0 (K.map (Value.int .u8))) := ⟨fun i v hv => by
        have := H4.out.1
        rw [hG] at this
        rw [cell_of_row _ _ _ _ _ _ this, Nat.zero_add, ← HIS.out.2.2.2.2]
        simpa using hv, range_u8 ((HB4.out.block S (Array.getElem?_eq_some_iff.1 HG.out.1.key).1).trans HG.out.1.key)⟩
      clear hG HSTA H3 H4
      have HLD : Box (Calls Tryd.prog 18 #[.pointer (some ⟨D, 0, none⟩), .agg AK, .int .i64 3, .int .i64 16, .agg SA] x4 fun e w' => ∃ fp' a' c' C' B, Disk.Cx x0 w' D fp' (rdD d (pcs 3 16 j.st.start j.st.count)) ∧ Disk.Fol x4 fp w' fp' ∧ e = .returned (.tuple #[.slice a' C'.length c', .int .i64 0]) ∧ Chs w' B (.slice a' C'.length c') C' ∧ plC C' = X) := ⟨by
        have hq := HG.out.1.bq
        have hnn := HN.out.2
        have := load_v (HG.out.1.jc.cx.step HB4.out) K HKU.out.2.2.2 3 16 j.st hq.okS (by omega) (by omega) (by rw [hq.dn]; omega) (by rw [hq.dn]; omega) (by have h1 := HG.out.1.jc.ok.sl; have h2 := HG.out.1.jc.ok.cl; rw [hq.size] at h1 h2; simp [may, h1, h2]) hq.up.1 (by have := hq.ops; omega) (by have := hq.uw; omega) HX.out.2.2.2.1 HX.out.2.2.2.2
        rw [HKU.out.2.2.1, HSA.out] at this
        refine this.mono ?_
        rintro e w' ⟨fp', q1, q2, q3⟩
        obtain ⟨g1, g2⟩ := jn_load hq.jn hq.ne
        rcases q3 with ⟨q3, _⟩ | ⟨_, u, C', B, q4, q5, q6, q7, q8⟩
        · exact absurd g1 q3
        · obtain ⟨a', c', rfl⟩ := own_form2 q5.row
          exact ⟨fp', a', c', C', B, q1, q2, q4, q5, q8.trans g2⟩⟩
      go_upto_region 26 with (first
        | (refine atLoad 39 ?_; refine wpList_ldMid rfl 39 _ _ rfl Tryd.underlying39 rfl S 0 rfl (K.map (Value.int .u8)) HKU.out.1 HR4.out.2 ?_; rw [HKU.out.2.1])
        | (refine atLoad 48 ?_; refine wpList_ldMid rfl 48 _ _ rfl Tryd.underlying48 rfl G 0 rfl (scs j.st) HIS.out.2.2.2.1 HR4.out.1 ?_; rw [HIS.out.2.2.2.2])
        | (go_at_call 18; refine HLD.out.mono ?_; rintro e x5 ⟨fp5, a5, c5, C5, B5, q1, q2, rfl, q3, q4⟩; have H5 : Box (Disk.Cx x0 x5 D fp5 (rdD d (pcs 3 16 j.st.start j.st.count)) ∧ Disk.Fol x4 fp x5 fp5 ∧ Chs x5 B5 (.slice a5 C5.length c5) C5 ∧ plC C5 = X) := ⟨q1, q2, q3, q4⟩; clear q1 q2 q3 q4))
      have HXL : Box (C5.length = k ∧ ∀ c ∈ C5, c.l ≤ 1000) := ⟨by
        have h1 := congrArg List.length H5.out.2.2.2
        rw [HG.out.2] at h1
        simpa [plC] using h1, fun c hc => by
        have h1 := (H5.out.2.2.1.im c hc).1
        have h2 : c.M.map pl ∈ X := by rw [← H5.out.2.2.2]; exact List.mem_map.2 ⟨c, hc, rfl⟩
        have h3 : (c.M.map pl).length ≤ ((X.map ofP).flatten).length := by
          obtain ⟨i, hi, e⟩ := List.getElem_of_mem h2
          have : ∀ (L : List (List (Int × List Int))) (y), y ∈ L → y.length ≤ ((L.map ofP).flatten).length := by
            intro L
            induction L with
            | nil => intro y hy; simp at hy
            | cons z L ih =>
              intro y hy
              rw [List.map_cons, List.flatten_cons, List.length_append, len_ofP]
              rcases List.mem_cons.1 hy with rfl | hy2
              · omega
              · have := ih y hy2
                omega
          exact this X _ h2
        have h4 := HG.out.1.bq.jn.ct
        have h5 := HG.out.1.bq.ct
        have h6 := HN.out.2
        rw [List.length_map, h1] at h3
        omega⟩
      have HAO : Box (Calls Tryd.prog 9 #[.slice a5 C5.length c5] x5 fun e w' => ∃ a6 c6 W6, e = .returned (.slice a6 C5.length c6) ∧ Rws w' a6 W6 ∧ W6.length = C5.length ∧ W6.map (·.P) = X ∧ (∀ x ∈ W6, x.l ≤ 1000) ∧ Below x5.heap.size x5 w') := ⟨by
        have hig := H5.out.2.2.1.igss (fun x hx => by have := HXL.out.2 x hx; unfold maxLen; omega)
        have := allOf_any a5 c5 C5 x5 hig (by have := HXL.out.1; have := HN.out.2; omega) HXL.out.2
        refine this.mono ?_
        rintro e w' ⟨v, W6, rfl, hao⟩
        have hwl := hao.len (Nat.le_refl _)
        have heq : W6.map (·.P) = X := by rw [hao.eq, List.take_of_length_le (by simp [plC]), H5.out.2.2.2]
        have hwn := hao.wn
        obtain ⟨a6, c6, rfl⟩ := own_form2 hwn.row
        refine ⟨a6, c6, W6, by rw [hwl], hwn.rws, hwl, heq, fun x hx => ?_, hao.bel⟩
        have h1 := (hwn.im x hx).1
        have h2 : x.P ∈ X := by rw [← heq]; exact List.mem_map.2 ⟨x, hx, rfl⟩
        rw [← H5.out.2.2.2] at h2
        obtain ⟨c, hc, e⟩ := List.mem_map.1 h2
        have h3 := HXL.out.2 c hc
        have h4 := (H5.out.2.2.1.im c hc).1
        rw [← h1, ← e, List.length_map, h4]
        exact h3⟩
      have HWT : Box (Wnt x5 x0.heap.size u12 Wn ∧ Wn.length = C5.length ∧ Below w.heap.size w x5) := ⟨((HG.out.1.wn.to HB4.out).fw HG.out.1.clr (Fw.of_fol H5.out.2.1 (fun k => k = J))).1, by rw [HG.out.1.wl, HG.out.2, HXL.out.1], below_to HX.out.1 H5.out.1.bel⟩
      obtain ⟨ua, uc, rfl⟩ := own_form2 HG.out.1.wn.row
      have HSM : Box (∀ (x6 : World) (a6 : Option Addr) (c6 : Nat) (W6 : List Wx), Rws x6 a6 W6 → W6.length = C5.length → W6.map (·.P) = X → (∀ x ∈ W6, x.l ≤ 1000) → Below x5.heap.size x5 x6 → Calls Tryd.prog 19 #[.slice a6 C5.length c6, .slice ua Wn.length uc] x6 fun e w' => e = .returned (.bool true) ∧ Below x6.heap.size x6 w') := ⟨fun x6 a6 c6 W6 h1 h2 h3 h4 h5 => by
        have hw := HWT.out.1.to h5
        rw [HWT.out.2.1]
        exact sameAll_any a6 ua c6 uc C5.length W6 Wn x6 h1 hw.rws h2 HWT.out.2.1 (by rw [h3, HG.out.1.wp]) (by have := HXL.out.1; have := HN.out.2; omega) h4⟩
      clear HG hbw HLD HR4
      go_wp2_with (first
        | (go_at_call 9; refine HAO.out.mono ?_; rintro e x6 ⟨a6, c6, W6, rfl, q1, q2, q3, q4, q5⟩; have H6 : Box (Below x5.heap.size x5 x6) := ⟨q5⟩; have HS6 : Box _ := ⟨HSM.out x6 a6 c6 W6 q1 q2 q3 q4 q5⟩; clear q1 q2 q3 q4 q5)
        | (go_at_call 19; refine HS6.out.mono ?_; rintro e x7 ⟨rfl, q1⟩; have H7 : Box (Below w.heap.size w x7) := ⟨below_to HWT.out.2.2 (below_to H6.out q1)⟩; clear q1))
      go_ret
      exact ⟨rfl, H7.out⟩
theorem replayBack_walk (K : List Int) (b : Int) (a : Option Addr) (cap : Nat) (C : List Sx) (w : World) (hT : Dig.Tabs w) (hT2 : Seal.Tab w) (hl : K.length = 32) (hD : Byt K) (w1 : (Lit.int .u8 b).wf = true) (h : Igss w a C) (y : C.length ≤ maxLen) :
    Calls Tryd.prog 4 #[.agg (u8s K), .int .u8 b, .slice a C.length cap] w fun e w' => e = .returned (.bool true) ∧ Below w.heap.size w w' := by
  have b1 := bounds_u8 w1
  obtain ⟨x, rfl⟩ := Int.eq_ofNat_of_zero_le b1.1
  unfold maxLen at y
  by_cases h4 : C.length ≤ 4
  · exact replayBack_core K ⟨hl, hD⟩ x (by omega) a cap C w hT hT2 h h4
  · exact replayBack_far K _ a C.length cap w hT hT2 h4 (by omega)
end Go.Proofs.YteaejodihmnbcaaDoor
