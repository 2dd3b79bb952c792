/-
  VaultSides: an update never writes to a place where something stands that counts: behind each one the places of the one ahead are as they were.
-/
import Derived.Test.YthbbijaikcmaeaaGreatDoorX42
namespace Go.Proofs.YthbbijaikcmaeaaGreatDoor
set_option maxRecDepth 100000
set_option linter.unusedVariables false
set_option maxRecDepth 100000
open Go.RowKit Go.Shelf Plain Go.Proofs.YthbbijaikcmaeaaGreatDoor.Shap.Plain
attribute [local go_sem] Oper.semAt_some
set_option maxHeartbeats 16000000 in
theorem vaultSides_core (K : List Int) (hK : K.length = 32 ∧ Byt K) (la : Option Addr) (lc : Nat) (LS : List Rec.Sx) (w : World) (hT : Dig.Tabs w) (hT2 : Seal.Tab w) (hLS : Rec.Igss w la LS) :
    Calls Tryz.prog 6 #[.agg (u8s K), .slice la LS.length lc] w fun e w' => e = .returned (.bool true) ∧ Below w.heap.size w w' := by
  obtain ⟨S, hS⟩ : ∃ S, w.heap.size = S := ⟨_, rfl⟩
  obtain ⟨AK, HAK⟩ : ∃ A, Box (u8s K = A) := ⟨_, ⟨rfl⟩⟩
  rw [HAK.out]
  obtain ⟨RZ, HRZ⟩ : ∃ A, Box (ra zr = A) := ⟨_, ⟨rfl⟩⟩
  obtain ⟨w1, hw1⟩ : ∃ w1, w.alloc (.cells AK 23) = w1 := ⟨_, rfl⟩
  have hb1 : Below w.heap.size w w1 := by rw [← hw1]; exact (Below.refl _ _).alloc (Nat.le_refl _) _
  have r1 : w1.heap[S]? = some (.cells AK 23 (0, 0)) := by rw [← hw1]; exact al_at hS
  have HAW : Box (Calls Tryz.prog 7 #[] w1 fun e w' => e = .returned (.bool true) ∧ Below w1.heap.size w1 w') := ⟨awake_v w1 (hT.below hb1) (hT2.below hb1)⟩
  have HX : Box (∀ x, Below w1.heap.size w1 x → x.rangeAt S 0 (K.map (Value.int .u8)) ∧ Dig.Tabs x ∧ Seal.Tab x ∧ Rec.Igss x la LS ∧ Below w.heap.size w x) := ⟨fun x hx => ⟨fun j q hq => by
    rw [cell_of_row _ _ _ _ _ _ ((hx.block S (Array.getElem?_eq_some_iff.1 r1).1).trans r1), Nat.zero_add, ← HAK.out]
    simpa [u8s] using hq, hT.below (below_to hb1 hx), hT2.below (below_to hb1 hx), hLS.below (below_to hb1 hx), below_to hb1 hx⟩⟩
  have HKI : Box ((Tryz.prog.info? 23).map (·.size) = some (K.map (Value.int .u8)).length ∧ (K.map (Value.int .u8)).toArray = AK ∧ K.length = 32 ∧ Byt K) := ⟨by rw [List.length_map, hK.1]; exact infoSum, by rw [← HAK.out]; rfl, hK⟩
  have HS : Box (w.heap.size = S) := ⟨hS⟩
  obtain ⟨d0, hd0⟩ : ∃ d0, Disk.dk0 40 = d0 := ⟨_, rfl⟩
  have HD0 : Box (Up d0 ∧ d0.n = 40 ∧ d0.ops.length = 0 ∧ d0.uw = [] ∧ (0 ≤ d0.left ∧ d0.left ≤ 9223372036854775807) ∧ ∀ q, Disk.lat d0 q = Disk.z192) := ⟨by rw [← hd0]; exact ⟨⟨rfl, rfl⟩, rfl, rfl, rfl, ⟨by decide, by decide⟩, fun q => rfl⟩⟩
  clear hT hT2 hLS hK hb1 r1 hS
  go_enter Tryz.func6, Tryz.ntmps6
  go_upto_region 1 with fail
  (try simp only [HS.out])
  clear hw1
  go_upto_region 4 with (go_at_call 7; refine HAW.out.mono ?_; rintro e x1 ⟨rfl, hb⟩; have H1 : Box (Below w1.heap.size w1 x1) := ⟨hb⟩; clear hb)
  clear HAW
  by_cases hl6 : 6 < LS.length
  · have hd6 : decide ((6 : Int) < (LS.length : Int)) = true := by simp; omega
    go_wp2
    go_ret
    exact ⟨rfl, (HX.out x1 H1.out).2.2.2.2⟩
  have hd6 : decide ((6 : Int) < (LS.length : Int)) = false := by simp; omega
  obtain ⟨n, hn⟩ : ∃ n, LS.length = n := ⟨_, rfl⟩
  have HN : Box (LS.length = n ∧ n ≤ 6) := ⟨hn, by omega⟩
  rw [hn] at hd6 hl6 ⊢
  clear hn
  go_upto_region 6 with fail
  clear hd6
  obtain ⟨D, hD⟩ : ∃ D, x1.heap.size + 1 = D := ⟨_, rfl⟩
  have HD : Box (Calls Tryz.prog 8 #[.int .i64 40] x1 fun e w' => e = .returned (.tuple #[.pointer (some ⟨D, 0, none⟩), .int .i64 0]) ∧ ∃ fp, Disk.Cx x1 w' D fp d0) := ⟨by have := Disk.new_cx x1 40 ⟨by omega, by omega⟩; rw [hD, hd0] at this; exact this⟩
  clear hD hd0
  go_upto_region 7 with (go_at_call 8; refine HD.out.mono ?_; rintro e x2 ⟨rfl, fp2, hc⟩; have H2 : Box (Disk.Cx x1 x2 D fp2 d0) := ⟨hc⟩; clear hc)
  clear HD
  have HVN : Box (Calls Tryz.prog 9 #[.pointer (some ⟨D, 0, none⟩), .agg AK, .int .i64 6, .agg RZ, .int .u64 1, .int .u64 1099511627776] x2 fun e w' => ∃ V fp' sa sc, e = .returned (.tuple #[.pointer (some ⟨V, 0, none⟩), .int .i64 0]) ∧ VC x1 w' V D fp' ⟨K, 6, zr, 1, 1099511627776⟩ d0 sa sc) := ⟨by
    have hx := HX.out x1 H1.out
    have := vnew_ok H2.out K HKI.out.2.2 6 (by omega) (by omega) zr okR_zr 1 1099511627776 ⟨by omega, by omega⟩ ⟨by omega, by omega⟩ hx.2.1 hx.2.2.1 (by rw [HD0.out.2.1]; decide) (by omega) (by omega)
    rw [HAK.out, HRZ.out] at this
    exact this.mono fun e w' ⟨V, fp', sa, sc, h1, h2, _⟩ => ⟨V, fp', sa, sc, h1, h2⟩⟩
  have HRG : Box (x2.rangeAt S 0 (K.map (Value.int .u8))) := ⟨(HX.out x2 (below_to H1.out H2.out.bel)).1⟩
  go_upto_region 10 with (first
    | (refine atLoad 23 ?_; refine wpList_ldMid rfl 23 _ _ rfl Tryz.underlying23 rfl S 0 rfl (K.map (Value.int .u8)) HKI.out.1 HRG.out ?_; rw [HKI.out.2.1])
    | (refine atBuild 36 ?_; refine wpList_run rfl _ _ (exec_built 36 [] rfl [] rfl RZ (by rw [← HRZ.out]; exact built_R0)) ?_)
    | (go_at_call 9; refine HVN.out.mono ?_; rintro e x3 ⟨V, fp3, sa, sc, rfl, hc⟩; have H3 : Box (VC x1 x3 V D fp3 ⟨K, 6, zr, 1, 1099511627776⟩ d0 sa sc) := ⟨hc⟩; clear hc))
  clear HVN HRG H2
  obtain ⟨C, hC⟩ : ∃ C, x3.heap.size = C := ⟨_, rfl⟩
  obtain ⟨x4, hx4⟩ : ∃ x, x3.alloc (.cells (bk40 f40) 63) = x := ⟨_, rfl⟩
  obtain ⟨E, hE⟩ : ∃ E, x4.heap.size = E := ⟨_, rfl⟩
  obtain ⟨x5, hx5⟩ : ∃ x, x4.alloc (.cells (ik16 z16) 64) = x := ⟨_, rfl⟩
  have HCE : Box (x3.heap.size = C ∧ E = C + 1) := ⟨hC, by rw [← hE, ← hx4, ← hC]; simp⟩
  have H5 : Box (x5.heap[C]? = some (.cells (bk40 f40) 63 (0, 0)) ∧ x5.heap[E]? = some (.cells (ik16 (fun j => if j < 0 then -1 else 0)) 64 (0, 0)) ∧ Below x3.heap.size x3 x5) := ⟨by
    have hb4 : Below x3.heap.size x3 x4 := by rw [← hx4]; exact (Below.refl _ _).alloc (Nat.le_refl _) _
    have hb5 : Below x4.heap.size x4 x5 := by rw [← hx5]; exact (Below.refl _ _).alloc (Nat.le_refl _) _
    have r4 : x4.heap[C]? = some (.cells (bk40 f40) 63 (0, 0)) := by rw [← hx4]; exact al_at hC
    have r5 : x5.heap[E]? = some (.cells (ik16 z16) 64 (0, 0)) := by rw [← hx5]; exact al_at hE
    exact ⟨(hb5.block C (Array.getElem?_eq_some_iff.1 r4).1).trans r4, r5, below_to hb4 hb5⟩⟩
  go_upto_region 13 with (first
    | (refine atAlloc _ ?_; refine wpList_run rfl _ _ (exec_alloc 63 rfl _ zero40) ?_; (try simp only [hC, hx4]))
    | (refine atAlloc _ ?_; refine wpList_run rfl _ _ (exec_alloc 64 rfl _ zero16) ?_; (try simp only [hE, hx5])))
  clear hC hx4 hE hx5
  --A
  go_loopw [12] (fun i wr => ∃ k : Nat, k ≤ 16 ∧ i = .int .i64 (k : Int) ∧ Box (wr.heap[C]? = some (.cells (bk40 f40) 63 (0, 0)) ∧ wr.heap[E]? = some (.cells (ik16 (fun j => if j < k then -1 else 0)) 64 (0, 0)) ∧ Below x3.heap.size x3 wr)) (fun i _ => 16 - (intOf i).toNat)
  case atStart => exact ⟨0, Nat.zero_le _, rfl, H5⟩
  case round =>
    clear H5
    obtain ⟨k, hk, rfl, HG⟩ := hrel
    by_cases hlt : k < 16
    · have hlt1 : decide ((k : Int) < 16) = true := by simp; omega
      obtain ⟨hc1, hc2⟩ := ik16_cell HG.out.2.1 k hlt
      have hw4 : IntKind.i64.wrap ((k : Int) + 1) = ((k + 1 : Nat) : Int) := by rw [IntKind.wrap_i64]; omega
      have HNX : Box ((wr.setCell ⟨E, k, none⟩ (.int .i64 (-1))).heap[C]? = some (.cells (bk40 f40) 63 (0, 0)) ∧ (wr.setCell ⟨E, k, none⟩ (.int .i64 (-1))).heap[E]? = some (.cells (ik16 (fun j => if j < k + 1 then -1 else 0)) 64 (0, 0)) ∧ Below x3.heap.size x3 (wr.setCell ⟨E, k, none⟩ (.int .i64 (-1)))) := ⟨by
        have hce := HCE.out
        refine ⟨(heap_setCell_other wr ⟨E, k, none⟩ C _ (show C ≠ E by omega)).trans HG.out.1, ?_, below_set HG.out.2.2 (by omega) _⟩
        rw [ik16_set HG.out.2.1 k hlt (-1)]
        congr 2
        refine ik16_congr (fun j hj => ?_)
        by_cases e : j = k
        · rw [if_pos e, if_pos (by omega)]
        · rw [if_neg e]
          by_cases e2 : j < k
          · rw [if_pos e2, if_pos (by omega)]
          · rw [if_neg e2, if_neg (by omega)]⟩
      generalize (if k < k then (-1 : Int) else 0) = cv at hc1
      clear HG
      go_wp2
      go_roundw
      case rel => exact ⟨k + 1, by omega, by go_num, HNX⟩
      case measure => simp [intOf]; omega
    · have hkn : k = 16 := by omega
      have hlt1 : decide ((k : Int) < 16) = false := by simp; omega
      have HST : Box (Ss x1 wr V D fp3 K sa sc C E 0 d0 1 zr (fun _ => -1)) := ⟨by
        have hce := HCE.out
        have h0 := HD0.out
        have hb := HG.out.2.2
        have hlV := H3.out.lt
        refine ⟨H3.out.below hb, sd_new K d0 h0.1 h0.2.2.2.1 h0.2.2.2.2.2, by decide, by omega, h0.2.2.2.2.1, ⟨fun c hc => ?_, fun c hc hf => ?_, fun c hc => ?_, fun c hc => ?_⟩, by rw [cnt_start]; exact HG.out.1, ?_, h0.2.1⟩
        · rcases hc with rfl | rfl
          · exact (Array.getElem?_eq_some_iff.1 HG.out.1).1
          · exact (Array.getElem?_eq_some_iff.1 HG.out.2.1).1
        · have := H3.out.cx.hi c hf; rcases hc with rfl | rfl <;> omega
        · rcases hc with rfl | rfl <;> omega
        · have := H3.out.cx.bel.size; rcases hc with rfl | rfl <;> omega
        · rw [HG.out.2.1]
          congr 2
          exact ik16_congr (fun j hj => by rw [if_pos (by omega)])⟩
      have HSA : Box (∀ ad, sa = some ad → ¬ (ad.block = C ∨ ad.block = E)) := ⟨fun ad e h => by
        have := ints_lt H3.out.ints (wid_pos _) ad e
        have hce := HCE.out
        omega⟩
      clear HG hkn hk
      go_upto_region 17 with fail
      clear hlt1
      --B
      go_loopw [13] (fun iv wr => ∃ (i : Nat) (fp : Nat → Prop) (d : Disk.Dk) (nx : Int) (top : Rf) (side : Nat → Int), i ≤ n ∧ iv = .int .i64 (i : Int) ∧ Box (Ss x1 wr V D fp K sa sc C E i d nx top side)) (fun iv _ => n - (intOf iv).toNat)
      case atStart => exact ⟨0, fp3, d0, 1, zr, fun _ => -1, Nat.zero_le _, rfl, HST⟩
      case round =>
        clear HST
        obtain ⟨i, fp, d, nx, top, side, hi, rfl, HG⟩ := hrel
        by_cases hlt : i < n
        · have hlt1 : decide ((i : Int) < (n : Int)) = true := by simp; omega
          obtain ⟨wo, hwo⟩ : ∃ y, y = wr := ⟨_, rfl⟩
          rw [← hwo] at HG ⊢
          clear hwo
          have hiX : i < LS.length := by rw [HN.out.1]; exact hlt
          have HML : Box (i < n ∧ i < 6) := ⟨hlt, by have := HN.out.2; omega⟩
          have HWO : Box (Rec.Igss wo la LS) := ⟨(HX.out wo (below_to H1.out HG.out.vc.cx.bel)).2.2.2.1⟩
          obtain ⟨lb, lo, hla, _, hlr⟩ := HWO.out.tb (by omega)
          subst hla
          obtain ⟨⟨ia, il, ic, IM⟩, hsx⟩ : ∃ x, LS[i] = x := ⟨_, rfl⟩
          have HIM : Box (IM.length = il ∧ Rec.Imgs wo ia IM) := ⟨by
            have := HWO.out.im LS[i] (List.getElem_mem hiX)
            rw [hsx] at this
            exact ⟨this.1, this.2.1⟩⟩
          have hcI : wo.cell? ⟨lb, lo + i, none⟩ = some (.slice ia il ic) := by
            have := hlr i hiX 0 (.slice ia il ic) (by rw [hsx]; rfl)
            simpa using this
          clear hlr hsx hiX
          by_cases hi6 : 6 < il
          · have hd6 : decide ((6 : Int) < (il : Int)) = true := by simp; omega
            have HF : Box (Below w.heap.size w wo) := ⟨(HX.out wo (below_to H1.out HG.out.vc.cx.bel)).2.2.2.2⟩
            clear HG
            go_wp2_with (refine Rec.atIdx 62 ?_; refine wpList_run rfl _ _ (Rec.exec_idxT 62 24 Tryz.underlying62 1 info62 _ _ rfl lb lo n lc i rfl rfl HML.out.1) ?_)
            go_ret
            exact ⟨rfl, HF.out⟩
          have hd6 : decide ((6 : Int) < (il : Int)) = false := by simp; omega
          have HIL : Box (il ≤ 6) := ⟨by omega⟩
          have HCI : Box (Calls Tryz.prog 10 #[.slice ia il ic, .bool false] wo fun e w' => ∃ xa xc X, e = .returned (.slice xa il xc) ∧ Md 6 wo.heap.size wo w' (.slice xa il xc) il 0 X) := ⟨by
            have h6 := HIL.out
            have := Rec.images_any ia ic IM false wo HIM.out.2 (by rw [HIM.out.1]; omega)
            rw [HIM.out.1] at this
            refine this.mono ?_
            rintro e w' ⟨v, X, rfl, h⟩
            have hl : X.length = il := h.len
            have hr := h.im.row
            rw [hl] at hr
            obtain ⟨xa, xc, rfl⟩ := Rec.own_form2 hr
            exact ⟨xa, xc, X, rfl, h.im, hl, fun m hm => img_bl h m hm, fun i hi hk => absurd hk (by omega), h.bel⟩⟩
          go_upto_region 23 with (first
            | (refine Rec.atIdx 62 ?_; refine wpList_run rfl _ _ (Rec.exec_idxT 62 24 Tryz.underlying62 1 info62 _ _ rfl lb lo n lc i rfl rfl HML.out.1) ?_)
            | (go_at_call 10; refine HCI.out.mono ?_; rintro e x6 ⟨xa, xc, X0, rfl, hmd⟩; have H6 : Box (Md 6 wo.heap.size wo x6 (.slice xa il xc) il 0 X0) := ⟨hmd⟩; clear hmd))
          clear HCI hd6 hcI hlt1 hlt
          --C
          go_loopw [15] (fun iv wr => ∃ (k : Nat) (Y : List Rec.Im), k ≤ il ∧ iv = .int .i64 (k : Int) ∧ Box (Md 6 wo.heap.size wo wr (.slice xa il xc) il k Y)) (fun iv _ => il - (intOf iv).toNat)
          case atStart => exact ⟨0, X0, Nat.zero_le _, rfl, H6⟩
          case round =>
            clear H6
            obtain ⟨k, Z, hk, rfl, HGm⟩ := hrel
            by_cases hlt : k < il
            · have hlt1 : decide ((k : Int) < (il : Int)) = true := by simp; omega
              have hkY : k < Z.length := by rw [HGm.out.len]; exact hlt
              obtain ⟨gJ, rfl, hg1, hg2⟩ := oimgs_form HGm.out.im (by omega)
              have HMK : Box (k < il) := ⟨hlt⟩
              obtain ⟨hc1, hc2⟩ := oimgs_cell HGm.out.im k hkY
              obtain ⟨bk, hbk⟩ : ∃ b, Z[k].blk = b := ⟨_, rfl⟩
              have hb0 : 0 ≤ bk := by rw [← hbk]; exact ((HGm.out.im.byt Z[k] (List.getElem_mem hkY)).num).1
              obtain ⟨z, hz⟩ : ∃ z, bk % 6 = z := ⟨_, rfl⟩
              have HST : Box (Md 6 wo.heap.size wo (wr.setCell ⟨gJ, k * 2, none⟩ (.int .u64 z)) (.slice (some ⟨gJ, 0, none⟩) il xc) il (k + 1) (Z.set k { Z[k] with blk := z })) := ⟨HGm.out.step hkY hg1 (by omega) (by omega) z (by rw [hbk]; exact hz)⟩
              rw [hbk] at hc1
              have hz2 : bk.tmod 6 = z := by rw [← hz]; exact Int.tmod_eq_emod_of_nonneg hb0
              have hw4 : IntKind.i64.wrap ((k : Int) + 1) = ((k + 1 : Nat) : Int) := by rw [IntKind.wrap_i64]; have := HIL.out; omega
              have hz5 : bk % 6 = z := hz
              generalize Z.set k { Z[k] with blk := z } = Y2 at HST
              clear HGm hkY hbk hg1 hg2 hb0 hz
              go_wp2_with (refine Rec.atIdx 24 ?_; refine wpList_run rfl _ _ (Rec.exec_idxT 24 41 Tryz.underlying24 2 Rec.infoIm _ _ rfl gJ 0 il xc k rfl rfl HMK.out) ?_)
              go_roundw
              case rel => exact ⟨k + 1, Y2, HMK.out, by go_num, HST⟩
              case measure => simp [intOf]; omega
            · have hkn : k = il := by omega
              have hlt1 : decide ((k : Int) < (il : Int)) = false := by simp; omega
              have HMD : Box (Md 6 wo.heap.size wo wr (.slice xa il xc) il il Z) := ⟨hkn ▸ HGm.out⟩
              clear HGm hkn hk
              obtain ⟨y1, hy1⟩ : ∃ y, y = wr := ⟨_, rfl⟩
              rw [← hy1] at HMD ⊢
              clear hy1
              --D
              have HIG : Box (Calls Tryz.prog 16 #[.pointer (some ⟨D, 0, none⟩)] y1 fun e w' => ∃ gW, e = .returned (.slice (some ⟨gW, 0, none⟩) 40 40) ∧ Below y1.heap.size y1 w' ∧ ∀ x : World, (∀ c, y1.heap.size ≤ c → c < w'.heap.size → x.heap[c]? = w'.heap[c]?) → ∀ q, q < 40 → ∃ a c, x.cell? ⟨gW, q, none⟩ = some (.slice a 192 c) ∧ Bytes x a 192 (Disk.lat d q)) := ⟨by
                have := image_r (HG.out.vc.below HMD.out.bel).cx
                rw [HG.out.dn] at this
                refine this.mono ?_
                rintro e w' ⟨gW, g1, g2, g3⟩
                refine ⟨gW, g1, g2, fun x hx q hq => ?_⟩
                have e0 : Disk.lat d q = d.pl q := by unfold Disk.lat; rw [HG.out.sd.uw]; rfl
                rw [e0]
                exact g3 x hx q hq⟩
              go_upto_region 27 with (go_at_call 16; refine HIG.out.mono ?_; rintro e y2 ⟨gW, rfl, g1, g2⟩; have HY2 : Box (Below y1.heap.size y1 y2 ∧ ∀ x : World, (∀ c, y1.heap.size ≤ c → c < y2.heap.size → x.heap[c]? = y2.heap[c]?) → ∀ q, q < 40 → ∃ a c, x.cell? ⟨gW, q, none⟩ = some (.slice a 192 c) ∧ Bytes x a 192 (Disk.lat d q)) := ⟨g1, g2⟩; clear g1 g2)
              clear HIG hlt1 hlt
              have HB2 : Box (Below wo.heap.size wo y2) := ⟨below_to HMD.out.bel HY2.out.1⟩
              have HU : Box (∃ d' nx' R, updM (Yk K) Xd 6 (topL 6) 1099511627776 (LM (Z.map toIm)) d nx top = (d', nx', 0, R) ∧ nx ≤ nx' ∧ nx' ≤ nx + 9 ∧ Up d' ∧ (∀ q, chg d d' q = true → q < 18 ∧ side (q / 2) ≠ ((q % 2 : Nat) : Int)) ∧ Sd K (Disk.flOk d') nx' R (sdAt (chg d d') side 40) ∧ Gw d 20000 d') := ⟨by
                have hb := HG.out.nxb
                have hm := HML.out.2
                obtain ⟨d', nx', R, e, h1, h2, h3, h4, h5⟩ := sides_step HG.out.sd (LM (Z.map toIm)) (fun x hx => img_ok HMD.out x hx) (by omega)
                have hgw := gw_updM ⟨K, 6, top, nx, 1099511627776⟩ HG.out.vc.ok (Z.map toIm) (fun m hm => by
                  obtain ⟨y, hy, rfl⟩ := List.mem_map.1 hm
                  exact (HMD.out.im.byt y hy).byi.1.1) (fun m hm => by
                  obtain ⟨y, hy, rfl⟩ := List.mem_map.1 hm
                  exact (HMD.out.im.byt y hy).num.1) d
                rw [show updM (Yk (⟨K, 6, top, nx, 1099511627776⟩ : Vt).key) Xd (⟨K, 6, top, nx, 1099511627776⟩ : Vt).n (topL (⟨K, 6, top, nx, 1099511627776⟩ : Vt).n) (⟨K, 6, top, nx, 1099511627776⟩ : Vt).lim (LM (Z.map toIm)) d (⟨K, 6, top, nx, 1099511627776⟩ : Vt).nx (⟨K, 6, top, nx, 1099511627776⟩ : Vt).top = (d', nx', 0, R) from e] at hgw
                exact ⟨d', nx', R, e, h1, h2, h3, h4, h5, hgw⟩⟩
              obtain ⟨d1, nx1, R1, hum, hn1, hn2, hu1, hch1, hsd1, hgw1⟩ := HU.out
              have HP : Box (OkR R1 ∧ nx1 ≤ nx + 9 ∧ Up d1 ∧ (∀ q, chg d d1 q = true → q < 18 ∧ side (q / 2) ≠ ((q % 2 : Nat) : Int)) ∧ Sd K (Disk.flOk d1) nx1 R1 (sdAt (chg d d1) side 40) ∧ d1.ops.length ≤ 30000 * i + 20000 ∧ d1.uw.length ≤ 20000 ∧ (0 ≤ d1.left ∧ d1.left ≤ 9223372036854775807) ∧ d1.n = 40) := ⟨by
                have o1 := hgw1.ops
                have o2 := hgw1.uw
                have o3 := HG.out.ops
                rw [HG.out.sd.uw] at o2
                exact ⟨hsd1.okr, hn2, hu1, hch1, hsd1, by omega, by simpa using o2, hgw1.left HG.out.left, hgw1.n.trans HG.out.dn⟩⟩
              obtain ⟨RA, HRA⟩ : ∃ A, Box (ra R1 = A) := ⟨_, ⟨rfl⟩⟩
              have HRAI : Box ((Tryz.prog.info? 36).map (·.size) = some RA.size ∧ (ra zr).size = RA.size ∧ RA.all (·.oneCell') = true ∧ (Tryz.prog.info? 36).map (·.size) = some (rc R1).length ∧ (rc R1).toArray = RA) := ⟨by rw [← HRA.out, size_ra HP.out.1]; exact infoR, by rw [← HRA.out, size_ra HP.out.1, size_ra okR_zr], by rw [← HRA.out]; exact all_ra R1, by rw [rc_len HP.out.1]; exact infoR, by rw [← HRA.out]; rfl⟩
              obtain ⟨M1, hM1⟩ : ∃ M : Nat → Prop, (fun c => (c = C ∨ c = E) ∨ wo.heap.size ≤ c ∧ c < y2.heap.size) = M := ⟨_, rfl⟩
              have HM1 : Box (Mn M1 x1 y2 V fp ∧ (M1 C ∧ M1 E) ∧ ∀ c, wo.heap.size ≤ c → c < y2.heap.size → M1 c) := ⟨by
                rw [← hM1]
                exact ⟨HG.out.mn.below HB2.out HG.out.vc.cx.hi HG.out.vc.lt HG.out.vc.cx.bel.size, ⟨.inl (.inl rfl), .inl (.inr rfl)⟩, fun c h1 h2 => .inr ⟨h1, h2⟩⟩⟩
              clear hM1
              have HUP : Box (Calls Tryz.prog 11 #[.pointer (some ⟨V, 0, none⟩), .slice xa il xc] y2 fun e w' => ∃ fp', e = .returned (.tuple #[.agg RA, .int .i64 0]) ∧ VC x1 w' V D fp' ⟨K, 6, top, nx1, 1099511627776⟩ d1 sa sc ∧ Mn M1 x1 w' V fp' ∧ ∀ c, M1 c → w'.heap[c]? = y2.heap[c]?) := ⟨by
                have ho : Rec.OImgs y2 wo.heap.size (.slice xa il xc) Z := oimgs_keep HMD.out.im (fun i h1 h2 => HY2.out.1.block i h2)
                have hI : Imgs y2 xa (Z.map toIm) := imgs_to (Rec.OImgs.imgs (c := xc) (by rw [HMD.out.len]; exact ho))
                have hV := HG.out.vc.lt
                have hbk : ∀ m ∈ Z.map toIm, ∀ ad, m.ba = some ad → ¬ fp ad.block ∧ ad.block ≠ V := fun m hm ad e => by
                  obtain ⟨y, hy, rfl⟩ := List.mem_map.1 hm
                  have h := oim_blk (ho.byt y hy) ad e
                  exact ⟨fun hf => by have := HG.out.vc.cx.hi _ hf; omega, by omega⟩
                have hln : (Z.map toIm).length = il := by rw [List.length_map]; exact HMD.out.len
                have hil := HIL.out
                have hm := HML.out.2
                have := update_v (HG.out.vc.below HB2.out) xa xc (Z.map toIm) hI (by rw [hln]; omega) hbk HG.out.sd.nx HG.out.left (by have := HG.out.ops; omega) (by rw [HG.out.sd.uw]; decide)
                rw [show updM (Yk (⟨K, 6, top, nx, 1099511627776⟩ : Vt).key) Xd (⟨K, 6, top, nx, 1099511627776⟩ : Vt).n (topL (⟨K, 6, top, nx, 1099511627776⟩ : Vt).n) (⟨K, 6, top, nx, 1099511627776⟩ : Vt).lim (LM (Z.map toIm)) d (⟨K, 6, top, nx, 1099511627776⟩ : Vt).nx (⟨K, 6, top, nx, 1099511627776⟩ : Vt).top = (d1, nx1, 0, R1) from hum, hln] at this
                refine this.mono ?_
                rintro e w' ⟨fp', g1, g2, g3⟩
                have hmf := HM1.out.1.fw g3
                exact ⟨fp', by rw [g1]; show Ending.returned (.tuple #[.agg (ra R1), .int .i64 0]) = _; rw [HRA.out], g2, hmf.1, hmf.2⟩⟩
              clear hum hn1 hn2 hu1 hch1 hsd1 hgw1 HU
              go_upto_region 28 with (first
                | (go_at_call 11; refine HUP.out.mono ?_; rintro e x7 ⟨fp7, rfl, g1, g2, g3⟩; have H7 : Box (VC x1 x7 V D fp7 ⟨K, 6, top, nx1, 1099511627776⟩ d1 sa sc ∧ Mn M1 x1 x7 V fp7 ∧ ∀ c, M1 c → x7.heap[c]? = y2.heap[c]?) := ⟨g1, g2, g3⟩; clear g1 g2 g3)
                | (refine atAlloc _ ?_; refine wpList_run rfl _ _ (exec_alloc 36 rfl _ zeroR) ?_)
                | (refine atStore _ ?_; refine wpList_newRow x7 (ra zr) RA HRAI.out.1 HRAI.out.2.1 HRAI.out.2.2.1 rfl _ _ rfl rfl rfl rfl ?_; intro x8 h8 hb8; have H8 : Box (x8.heap[x7.heap.size]? = some (.cells RA 36 (0, 0)) ∧ Below x7.heap.size x7 x8) := ⟨h8, hb8⟩; clear h8 hb8))
              clear HUP
              obtain ⟨S7, hS7⟩ : ∃ S, x7.heap.size = S := ⟨_, rfl⟩
              (try simp only [hS7])
              obtain ⟨M2, hM2⟩ : ∃ M : Nat → Prop, (fun c => M1 c ∨ x7.heap.size ≤ c ∧ c < x8.heap.size) = M := ⟨_, rfl⟩
              have H8a : Box (VC x1 x8 V D fp7 ⟨K, 6, top, nx1, 1099511627776⟩ d1 sa sc ∧ Mn M2 x1 x8 V fp7 ∧ x8.heap[S7]? = some (.cells RA 36 (0, 0)) ∧ M2 S7 ∧ (∀ c, M1 c → M2 c) ∧ ∀ c, M1 c → x8.heap[c]? = y2.heap[c]?) := ⟨by
                have h7 := H7.out
                have h8 := H8.out
                have hl := (Array.getElem?_eq_some_iff.1 h8.1).1
                refine ⟨h7.1.below h8.2, by rw [← hM2]; exact h7.2.1.below h8.2 h7.1.cx.hi h7.1.lt h7.1.cx.bel.size, by rw [← hS7]; exact h8.1, by rw [← hM2]; exact .inr ⟨by omega, by omega⟩, fun c hc => by rw [← hM2]; exact .inl hc, fun c hc => (h8.2.block c (h7.2.1.lt c hc)).trans (h7.2.2 c hc)⟩⟩
              clear hS7 H7 H8 hM2
              --E
              have HFL : Box (Calls Tryz.prog 12 #[.pointer (some ⟨D, 0, none⟩)] x8 fun e w' => e = .returned (.int .i64 0) ∧ ∃ fp', VC x1 w' V D fp' ⟨K, 6, top, nx1, 1099511627776⟩ (Disk.flOk d1) sa sc ∧ Mn M2 x1 w' V fp' ∧ ∀ c, M2 c → w'.heap[c]? = x8.heap[c]?) := ⟨by
                have hg := HP.out
                have h8 := H8a.out
                have hm := HML.out.2
                refine (Disk.flush_cx h8.1.cx hg.2.2.1.1 (by omega) (by omega)).mono ?_
                rintro e w' ⟨g1, fp', g2, g3⟩
                obtain ⟨fp'', v1, v2, _⟩ := h8.1.fol g2 g3 rfl
                have hmf := h8.2.1.fw (v2.wider (fun _ _ h => h.elim))
                exact ⟨g1, fp'', v1, hmf.1, hmf.2⟩⟩
              go_upto_region 29 with (go_at_call 12; refine HFL.out.mono ?_; rintro e x9 ⟨rfl, fp9, g1, g2, g3⟩; have H9 : Box (VC x1 x9 V D fp9 ⟨K, 6, top, nx1, 1099511627776⟩ (Disk.flOk d1) sa sc ∧ Mn M2 x1 x9 V fp9 ∧ ∀ c, M2 c → x9.heap[c]? = x8.heap[c]?) := ⟨g1, g2, g3⟩; clear g1 g2 g3)
              clear HFL
              have HR9 : Box (x9.rangeAt S7 0 (rc R1)) := ⟨fun j v hv => by
                rw [cell_of_row _ _ _ _ _ _ ((H9.out.2.2 S7 H8a.out.2.2.2.1).trans H8a.out.2.2.1), Nat.zero_add, ← HRAI.out.2.2.2.2]
                simpa using hv⟩
              have HAD : Box (Calls Tryz.prog 13 #[.pointer (some ⟨V, 0, none⟩), .agg RA, .int .u64 1099511627776] x9 fun e w' => e = .returned (.tuple #[]) ∧ VC x1 w' V D fp9 ⟨K, 6, R1, nx1, 1099511627776⟩ (Disk.flOk d1) sa sc ∧ Mn M2 x1 w' V fp9 ∧ ∀ c, M2 c → w'.heap[c]? = x8.heap[c]?) := ⟨by
                have h9 := H9.out
                have := adopt_v h9.1 R1 HP.out.1 1099511627776 ⟨by decide, by decide⟩
                rw [HRA.out] at this
                refine this.mono ?_
                rintro e w' ⟨g1, g2, g3⟩
                have hmf := h9.2.1.fw g3
                exact ⟨g1, g2, hmf.1, fun c hc => (hmf.2 c hc).trans (h9.2.2 c hc)⟩⟩
              go_upto_region 30 with (first
                | (refine atLoad 36 ?_; refine wpList_ldMid rfl 36 _ _ rfl Tryz.underlying36 rfl S7 0 rfl (rc R1) HRAI.out.2.2.2.1 HR9.out ?_; rw [HRAI.out.2.2.2.2])
                | (go_at_call 13; refine HAD.out.mono ?_; rintro e x10 ⟨rfl, g1, g2, g3⟩; have H10 : Box (VC x1 x10 V D fp9 ⟨K, 6, R1, nx1, 1099511627776⟩ (Disk.flOk d1) sa sc ∧ Mn M2 x1 x10 V fp9 ∧ ∀ c, M2 c → x10.heap[c]? = x8.heap[c]?) := ⟨g1, g2, g3⟩; clear g1 g2 g3))
              clear HAD HR9 H9
              have HIG2 : Box (Calls Tryz.prog 16 #[.pointer (some ⟨D, 0, none⟩)] x10 fun e w' => ∃ gN, e = .returned (.slice (some ⟨gN, 0, none⟩) 40 40) ∧ Below x10.heap.size x10 w' ∧ ∀ x : World, (∀ c, x10.heap.size ≤ c → c < w'.heap.size → x.heap[c]? = w'.heap[c]?) → ∀ q, q < 40 → ∃ a c, x.cell? ⟨gN, q, none⟩ = some (.slice a 192 c) ∧ Bytes x a 192 (Disk.lat d1 q)) := ⟨by
                have := image_r H10.out.1.cx
                rw [show (Disk.flOk d1).n = 40 from HP.out.2.2.2.2.2.2.2.2] at this
                refine this.mono ?_
                rintro e w' ⟨gN, g1, g2, g3⟩
                refine ⟨gN, g1, g2, fun x hx q hq => ?_⟩
                rw [← pl_fl d1 q]
                exact g3 x hx q hq⟩
              go_upto_region 34 with (go_at_call 16; refine HIG2.out.mono ?_; rintro e x11 ⟨gN, rfl, g1, g2⟩; have H11 : Box (Below x10.heap.size x10 x11 ∧ ∀ x : World, (∀ c, x10.heap.size ≤ c → c < x11.heap.size → x.heap[c]? = x11.heap[c]?) → ∀ q, q < 40 → ∃ a c, x.cell? ⟨gN, q, none⟩ = some (.slice a 192 c) ∧ Bytes x a 192 (Disk.lat d1 q)) := ⟨g1, g2⟩; clear g1 g2)
              clear HIG2
              --F
              have HLT : Box (C < wo.heap.size ∧ E < wo.heap.size ∧ wo.heap.size ≤ y1.heap.size ∧ y1.heap.size ≤ y2.heap.size ∧ (∀ c, y1.heap.size ≤ c → c < y2.heap.size → c < x10.heap.size) ∧ C < x10.heap.size ∧ E < x10.heap.size ∧ C ≠ E) := ⟨by
                have hm := HM1.out
                refine ⟨HG.out.mn.lt C (.inl rfl), HG.out.mn.lt E (.inr rfl), HMD.out.bel.size, HY2.out.1.size, fun c h1 h2 => H10.out.2.1.lt c (H8a.out.2.2.2.2.1 c (hm.2.2 c (by have := HMD.out.bel.size; omega) h2)), H10.out.2.1.lt C (H8a.out.2.2.2.2.1 C hm.2.1.1), H10.out.2.1.lt E (H8a.out.2.2.2.2.1 E hm.2.1.2), by have := HCE.out; omega⟩⟩
              have HVC : Box (VC x1 x11 V D fp9 ⟨K, 6, R1, nx1, 1099511627776⟩ (Disk.flOk d1) sa sc ∧ Mn (fun c => c = C ∨ c = E) x1 x11 V fp9) := ⟨by
                have h10 := H10.out
                refine ⟨h10.1.below H11.out.1, fun c hc => ?_, fun c hc => ?_, fun c hc => ?_, fun c hc => ?_⟩
                · have := H11.out.1.size; have := HLT.out; rcases hc with rfl | rfl <;> omega
                · rcases hc with rfl | rfl
                  · exact h10.2.1.nf _ (H8a.out.2.2.2.2.1 _ HM1.out.2.1.1)
                  · exact h10.2.1.nf _ (H8a.out.2.2.2.2.1 _ HM1.out.2.1.2)
                · rcases hc with rfl | rfl
                  · exact h10.2.1.nv _ (H8a.out.2.2.2.2.1 _ HM1.out.2.1.1)
                  · exact h10.2.1.nv _ (H8a.out.2.2.2.2.1 _ HM1.out.2.1.2)
                · rcases hc with rfl | rfl
                  · exact h10.2.1.lo _ (H8a.out.2.2.2.2.1 _ HM1.out.2.1.1)
                  · exact h10.2.1.lo _ (H8a.out.2.2.2.2.1 _ HM1.out.2.1.2)⟩
              have HOLD : Box (∀ c, M1 c → x11.heap[c]? = y2.heap[c]?) := ⟨fun c hc => by
                have h2 := H8a.out.2.2.2.2.1 c hc
                exact (H11.out.1.block c (H10.out.2.1.lt c h2)).trans ((H10.out.2.2 c h2).trans (H8a.out.2.2.2.2.2 c hc))⟩
              have HCR : Box (x11.heap[C]? = some (.cells (bk40 (cntOf side)) 63 (0, 0)) ∧ x11.heap[E]? = some (.cells (ik16 side) 64 (0, 0))) := ⟨(HOLD.out C HM1.out.2.1.1).trans ((HB2.out.block C HLT.out.1).trans HG.out.ct), (HOLD.out E HM1.out.2.1.2).trans ((HB2.out.block E HLT.out.2.1).trans HG.out.st)⟩
              have HIM2 : Box (∀ x, Disk.Turned (fun c => c = C ∨ c = E) x11 x → ∀ q, q < 40 → (∃ a c, x.cell? ⟨gW, q, none⟩ = some (.slice a 192 c) ∧ Bytes x a 192 (Disk.lat d q)) ∧ (∃ a c, x.cell? ⟨gN, q, none⟩ = some (.slice a 192 c) ∧ Bytes x a 192 (Disk.lat d1 q))) := ⟨fun x t q hq => by
                have hl := HLT.out
                have hz := H11.out.1.size
                refine ⟨HY2.out.2 x (fun c h1 h2 => ?_) q hq, H11.out.2 x (fun c h1 h2 => ?_) q hq⟩
                · have h3 := hl.2.2.2.2.1 c h1 h2
                  exact (t.block c (by omega) (by omega)).trans (HOLD.out c (HM1.out.2.2 c (by omega) h2))
                · exact t.block c h2 (by omega)⟩
              have HNEW : Box (nx1 ≤ 1 + 9 * ((i + 1 : Nat) : Int) ∧ (Disk.flOk d1).ops.length ≤ 30000 * (i + 1)) := ⟨by
                have h1 := HG.out.nxb
                have h2 := HP.out
                refine ⟨by omega, ?_⟩
                show (d1.ops ++ [(3, 0)]).length ≤ _
                simp; omega⟩
              clear HOLD H10 H11 H8a HM1 HY2 HMD HG HB2 HRAI HRA HIM HWO
              obtain ⟨ch, hch⟩ : ∃ c, chg d d1 = c := ⟨_, rfl⟩
              have HCH : Box (chg d d1 = ch ∧ (∀ q, ch q = true → q < 18 ∧ cntOf side q = false)) := ⟨hch, fun q hq => by
                rw [← hch] at hq
                have := HP.out.2.2.2.1 q hq
                refine ⟨this.1, ?_⟩
                unfold cntOf
                rw [decide_eq_false_iff_not]
                exact fun h => this.2 h.2⟩
              clear hch
              --G
              go_loopw [20] (fun iv wr => ∃ k : Nat, k ≤ 40 ∧ iv = .int .i64 (k : Int) ∧ Box (wr.heap[C]? = some (.cells (bk40 (cntOf side)) 63 (0, 0)) ∧ wr.heap[E]? = some (.cells (ik16 (sdAt ch side k)) 64 (0, 0)) ∧ Disk.Turned (fun c => c = C ∨ c = E) x11 wr)) (fun iv _ => 40 - (intOf iv).toNat)
              case atStart => exact ⟨0, Nat.zero_le _, rfl, ⟨HCR.out.1, HCR.out.2, Disk.Turned.refl _ _⟩⟩
              case round =>
                clear HCR
                obtain ⟨k, hk, rfl, HK⟩ := hrel
                by_cases hlt : k < 40
                · have hlt1 : decide ((k : Int) < 40) = true := by simp; omega
                  have HMK : Box (k < 40) := ⟨hlt⟩
                  have hw4 : IntKind.i64.wrap ((k : Int) + 1) = ((k + 1 : Nat) : Int) := by rw [IntKind.wrap_i64]; omega
                  obtain ⟨⟨wa, wc, hw1', hw2'⟩, ⟨na, nc, hn1', hn2'⟩⟩ := HIM2.out wr HK.out.2.2 k hlt
                  obtain ⟨A0, hA0⟩ : ∃ A, Disk.lat d k = A := ⟨_, rfl⟩
                  obtain ⟨A1, hA1⟩ : ∃ A, Disk.lat d1 k = A := ⟨_, rfl⟩
                  obtain ⟨cb, hcb⟩ : ∃ b, ch k = b := ⟨_, rfl⟩
                  rw [hA0] at hw2'
                  rw [hA1] at hn2'
                  have HCB : Box ((!decide (A0 = A1)) = cb ∧ Byt A0 ∧ Byt A1) := ⟨by rw [← hcb, ← HCH.out.1, chg, hA0, hA1], hw2'.2.1, hn2'.2.1⟩
                  have HC0 : Box (∀ x, Below wr.heap.size wr x → x.cell? ⟨gW, k, none⟩ = some (.slice wa 192 wc) ∧ Bytes x wa 192 A0 ∧ x.cell? ⟨gN, k, none⟩ = some (.slice na 192 nc) ∧ Bytes x na 192 A1) := ⟨fun x hx => ⟨(hx.cell (p := ⟨gW, k, none⟩) (cell_lt hw1')).trans hw1', hw2'.below hx, (hx.cell (p := ⟨gN, k, none⟩) (cell_lt hn1')).trans hn1', hn2'.below hx⟩⟩
                  clear hw1' hw2' hn1' hn2' hA0 hA1
                  go_upto_region 36 with fail
                  clear hlt1
                  refine Disk.begin_keep (S := fun x => Below wr.heap.size wr x) (by kernel_rfl) (fun wd hwd => ?_)
                  have hS : Below wr.heap.size wr wd := by rw [hwd]; exact (Below.refl _ _).drew
                  clear hwd
                  refine take_s (i := 0) (v := ?_) rfl (by kernel_rfl) (by kernel_rfl) (by kernel_rfl) (fun _ _ _ h => h) (by rfl) ?_ hS ?_
                  rotate_left
                  · intro w' hLat; clear hLat; go_simp <;> with_reducible rfl
                  try simp only [Act.put, List.setIfInBounds_toArray, List.set_cons_zero, List.set_cons_succ, List.getElem_toArray, List.getElem_cons_zero]
                  refine take_s (i := 1) (v := ?_) rfl (by kernel_rfl) (by kernel_rfl) (by kernel_rfl) (fun _ _ _ h => h) (by rfl) ?_ hS ?_
                  rotate_left
                  · intro w' hLat; clear hLat; go_simp <;> with_reducible rfl
                  try simp only [Act.put, List.setIfInBounds_toArray, List.set_cons_zero, List.set_cons_succ, List.getElem_toArray, List.getElem_cons_zero, List.getElem_cons_succ]
                  refine take_s (i := 2) (v := .pointer (some ⟨gW, 0 + k * 1, none⟩)) rfl (by kernel_rfl) (by kernel_rfl) (by kernel_rfl) (fun _ _ _ h => h) (by rfl) (fun w' hLat => exec_idxNw _ _ rfl gW 40 40 k rfl rfl HMK.out) hS ?_
                  try simp only [Act.put, List.setIfInBounds_toArray, List.set_cons_zero, List.set_cons_succ, List.getElem_toArray, List.getElem_cons_zero, List.getElem_cons_succ]
                  refine take_s (i := 3) (v := .slice wa 192 wc) rfl (by kernel_rfl) (by kernel_rfl) (by kernel_rfl) (fun _ _ _ h => h) (by rfl) (fun w' hLat => Disk.exec_load1 38 _ _ rfl Tryz.underlying38 rfl _ rfl _ (by have h9 := (HC0.out w' hLat).1; simpa using h9)) hS ?_
                  try simp only [Act.put, List.setIfInBounds_toArray, List.set_cons_zero, List.set_cons_succ, List.getElem_toArray, List.getElem_cons_zero, List.getElem_cons_succ]
                  refine take_s (i := 4) (v := .string (strOfNums A0)) rfl (by kernel_rfl) (by kernel_rfl) (by kernel_rfl) (fun _ _ _ h => h) (by rfl) (fun w' hLat => exec_convG _ rfl rfl (HC0.out w' hLat).2.1) hS ?_
                  try simp only [Act.put, List.setIfInBounds_toArray, List.set_cons_zero, List.set_cons_succ, List.getElem_toArray, List.getElem_cons_zero, List.getElem_cons_succ]
                  refine take_s (i := 5) (v := ?_) rfl (by kernel_rfl) (by kernel_rfl) (by kernel_rfl) (fun _ _ _ h => h) (by rfl) ?_ hS ?_
                  rotate_left
                  · intro w' hLat; clear hLat; go_simp <;> with_reducible rfl
                  try simp only [Act.put, List.setIfInBounds_toArray, List.set_cons_zero, List.set_cons_succ, List.getElem_toArray, List.getElem_cons_zero, List.getElem_cons_succ]
                  refine take_s (i := 6) (v := ?_) rfl (by kernel_rfl) (by kernel_rfl) (by kernel_rfl) (fun _ _ _ h => h) (by rfl) ?_ hS ?_
                  rotate_left
                  · intro w' hLat; clear hLat; go_simp <;> with_reducible rfl
                  try simp only [Act.put, List.setIfInBounds_toArray, List.set_cons_zero, List.set_cons_succ, List.getElem_toArray, List.getElem_cons_zero, List.getElem_cons_succ]
                  refine take_s (i := 7) (v := .pointer (some ⟨gN, 0 + k * 1, none⟩)) rfl (by kernel_rfl) (by kernel_rfl) (by kernel_rfl) (fun _ _ _ h => h) (by rfl) (fun w' hLat => exec_idxNw _ _ rfl gN 40 40 k rfl rfl HMK.out) hS ?_
                  try simp only [Act.put, List.setIfInBounds_toArray, List.set_cons_zero, List.set_cons_succ, List.getElem_toArray, List.getElem_cons_zero, List.getElem_cons_succ]
                  refine take_s (i := 8) (v := .slice na 192 nc) rfl (by kernel_rfl) (by kernel_rfl) (by kernel_rfl) (fun _ _ _ h => h) (by rfl) (fun w' hLat => Disk.exec_load1 38 _ _ rfl Tryz.underlying38 rfl _ rfl _ (by have h9 := (HC0.out w' hLat).2.2.1; simpa using h9)) hS ?_
                  try simp only [Act.put, List.setIfInBounds_toArray, List.set_cons_zero, List.set_cons_succ, List.getElem_toArray, List.getElem_cons_zero, List.getElem_cons_succ]
                  refine take_s (i := 9) (v := .string (strOfNums A1)) rfl (by kernel_rfl) (by kernel_rfl) (by kernel_rfl) (fun _ _ _ h => h) (by rfl) (fun w' hLat => exec_convG _ rfl rfl (HC0.out w' hLat).2.2.2) hS ?_
                  try simp only [Act.put, List.setIfInBounds_toArray, List.set_cons_zero, List.set_cons_succ, List.getElem_toArray, List.getElem_cons_zero, List.getElem_cons_succ]
                  refine take_s (i := 10) (v := .bool cb) rfl (by kernel_rfl) (by kernel_rfl) (by kernel_rfl) (fun _ _ _ h => h) (by rfl) (fun w' hLat => exec_strC _ _ _ rfl A0 A1 cb HCB.out.1 HCB.out.2.1 HCB.out.2.2 rfl rfl) hS ?_
                  try simp only [Act.put, List.setIfInBounds_toArray, List.set_cons_zero, List.set_cons_succ, List.getElem_toArray, List.getElem_cons_zero, List.getElem_cons_succ]
                  refine take_s (i := 11) (v := ?_) rfl (by kernel_rfl) (by kernel_rfl) (by kernel_rfl) (fun _ _ _ h => h) (by rfl) ?_ hS ?_
                  rotate_left
                  · intro w' hLat; clear hLat; go_simp <;> with_reducible rfl
                  try simp only [Act.put, List.setIfInBounds_toArray, List.set_cons_zero, List.set_cons_succ, List.getElem_toArray, List.getElem_cons_zero, List.getElem_cons_succ]
                  refine wpAnyH_done (by kernel_rfl) ?_ _
                  have HKD : Box (wd.heap[C]? = some (.cells (bk40 (cntOf side)) 63 (0, 0)) ∧ wd.heap[E]? = some (.cells (ik16 (sdAt ch side k)) 64 (0, 0)) ∧ Disk.Turned (fun c => c = C ∨ c = E) x11 wd) := ⟨(hS.block C (Array.getElem?_eq_some_iff.1 HK.out.1).1).trans HK.out.1, (hS.block E (Array.getElem?_eq_some_iff.1 HK.out.2.1).1).trans HK.out.2.1, turned_below HK.out.2.2 hS⟩
                  clear HK HC0 hS
                  cases cb with
                  | false =>
                    have HE : Box (wd.heap[C]? = some (.cells (bk40 (cntOf side)) 63 (0, 0)) ∧ wd.heap[E]? = some (.cells (ik16 (sdAt ch side (k + 1))) 64 (0, 0)) ∧ Disk.Turned (fun c => c = C ∨ c = E) x11 wd) := ⟨HKD.out.1, by
                      rw [HKD.out.2.1]
                      congr 2
                      exact ik16_congr (fun j _ => by
                        have e0 : sdAt ch side (k + 1) j = if ch k = true ∧ j = k / 2 then ((k % 2 : Nat) : Int) else sdAt ch side k j := rfl
                        rw [e0, if_neg (by rw [hcb]; exact fun h => by cases h.1)]), HKD.out.2.2⟩
                    clear HKD hcb
                    go_wp2
                    go_roundw
                    case rel => exact ⟨k + 1, HMK.out, by go_num, HE⟩
                    case measure => simp [intOf]; omega
                  | true =>
                    obtain ⟨h18, hcf⟩ := HCH.out.2 k hcb
                    obtain ⟨hcc, _⟩ := bk40_cell HKD.out.1 k HMK.out
                    rw [hcf] at hcc
                    obtain ⟨k2, hk2⟩ : ∃ x, k / 2 = x := ⟨_, rfl⟩
                    obtain ⟨k3, hk3⟩ : ∃ x, k % 2 = x := ⟨_, rfl⟩
                    have hk16 : k2 < 16 := by omega
                    obtain ⟨hce, hfe⟩ := ik16_cell HKD.out.2.1 k2 hk16
                    have hq1 : (k : Int).tdiv 2 = (k2 : Int) := by rw [← hk2]; rfl
                    have hq2 : (k : Int) / 2 = (k2 : Int) := by omega
                    have hq3 : (k : Int).tmod 2 = (k3 : Int) := by rw [← hk3]; rfl
                    have hq4 : (k : Int) % 2 = (k3 : Int) := by omega
                    have hq5 : IntKind.i64.wrap (k2 : Int) = (k2 : Int) := by rw [IntKind.wrap_i64]; omega
                    have HE : Box ((wd.setCell ⟨E, k2, none⟩ (.int .i64 (k3 : Int))).heap[C]? = some (.cells (bk40 (cntOf side)) 63 (0, 0)) ∧ (wd.setCell ⟨E, k2, none⟩ (.int .i64 (k3 : Int))).heap[E]? = some (.cells (ik16 (sdAt ch side (k + 1))) 64 (0, 0)) ∧ Disk.Turned (fun c => c = C ∨ c = E) x11 (wd.setCell ⟨E, k2, none⟩ (.int .i64 (k3 : Int)))) := ⟨(heap_setCell_other wd ⟨E, k2, none⟩ C _ HLT.out.2.2.2.2.2.2.2).trans HKD.out.1, by
                      rw [ik16_set HKD.out.2.1 k2 hk16 (k3 : Int)]
                      congr 2
                      exact ik16_congr (fun j _ => by
                        have e0 : sdAt ch side (k + 1) j = if ch k = true ∧ j = k / 2 then ((k % 2 : Nat) : Int) else sdAt ch side k j := rfl
                        rw [e0, hk2, hk3]
                        by_cases ej : j = k2
                        · rw [if_pos ej, if_pos ⟨hcb, ej⟩]
                        · rw [if_neg ej, if_neg (fun h => ej h.2)]), turned_set HKD.out.2.2 E k2 _ (.inr rfl)⟩
                    generalize sdAt ch side k k2 = zv at hce
                    clear HKD hcb hcf hk2 hk3 h18
                    go_wp2
                    go_roundw
                    case rel => exact ⟨k + 1, HMK.out, by go_num, HE⟩
                    case measure => simp [intOf]; omega
                · have hkn : k = 40 := by omega
                  have hlt1 : decide ((k : Int) < 40) = false := by simp; omega
                  obtain ⟨sd2, hsd2⟩ : ∃ s, sdAt ch side 40 = s := ⟨_, rfl⟩
                  have HK2 : Box (wr.heap[C]? = some (.cells (bk40 (fun j => if j < 2 * 0 then cntOf sd2 j else cntOf side j)) 63 (0, 0)) ∧ wr.heap[E]? = some (.cells (ik16 sd2) 64 (0, 0)) ∧ Disk.Turned (fun c => c = C ∨ c = E) x11 wr) := ⟨by
                    rw [HK.out.1]
                    congr 2
                    , by
                    rw [← hsd2, ← hkn]; exact HK.out.2.1, HK.out.2.2⟩
                  have HSD2 : Box (Sd K (Disk.flOk d1) nx1 R1 sd2) := ⟨by rw [← hsd2, ← HCH.out.1]; exact HP.out.2.2.2.2.1⟩
                  clear HK hkn hk hsd2
                  go_upto_region 42 with fail
                  clear hlt1 hlt
                  --H
                  go_loopw [22] (fun iv wr => ∃ k : Nat, k ≤ 16 ∧ iv = .int .i64 (k : Int) ∧ Box (wr.heap[C]? = some (.cells (bk40 (fun j => if j < 2 * k then cntOf sd2 j else cntOf side j)) 63 (0, 0)) ∧ wr.heap[E]? = some (.cells (ik16 sd2) 64 (0, 0)) ∧ Disk.Turned (fun c => c = C ∨ c = E) x11 wr)) (fun iv _ => 16 - (intOf iv).toNat)
                  case atStart => exact ⟨0, Nat.zero_le _, rfl, HK2⟩
                  case round =>
                    clear HK2
                    obtain ⟨k, hk, rfl, HK⟩ := hrel
                    by_cases hlt : k < 16
                    · have hlt1 : decide ((k : Int) < 16) = true := by simp; omega
                      have HMK : Box (k < 16) := ⟨hlt⟩
                      have hw4 : IntKind.i64.wrap ((k : Int) + 1) = ((k + 1 : Nat) : Int) := by rw [IntKind.wrap_i64]; omega
                      obtain ⟨k2, hk2⟩ : ∃ x, 2 * k = x := ⟨_, rfl⟩
                      obtain ⟨k3, hk3⟩ : ∃ x, 2 * k + 1 = x := ⟨_, rfl⟩
                      have hm1 : IntKind.i64.wrap (2 * (k : Int)) = (k2 : Int) := by rw [IntKind.wrap_i64]; omega
                      have hm2 : IntKind.i64.wrap ((k2 : Int) + 1) = (k3 : Int) := by rw [IntKind.wrap_i64]; omega
                      have hk40 : k2 < 40 := by omega
                      have hk41 : k3 < 40 := by omega
                      obtain ⟨zz, hzz⟩ : ∃ z, sd2 k = z := ⟨_, rfl⟩
                      obtain ⟨he1, _⟩ := ik16_cell HK.out.2.1 k hlt
                      rw [hzz] at he1
                      obtain ⟨b0, hb0⟩ : ∃ b, (zz == 0) = b := ⟨_, rfl⟩
                      obtain ⟨b1, hb1⟩ : ∃ b, (zz == 1) = b := ⟨_, rfl⟩
                      obtain ⟨hc0, hf0⟩ := bk40_cell HK.out.1 k2 hk40
                      obtain ⟨wz, hwz⟩ : ∃ x, wr.setCell ⟨C, k2, none⟩ (.bool b0) = x := ⟨_, rfl⟩
                      have HZ : Box (wz.heap[C]? = some (.cells (bk40 (fun x => if x = k2 then b0 else if x < 2 * k then cntOf sd2 x else cntOf side x)) 63 (0, 0)) ∧ wz.heap[E]? = some (.cells (ik16 sd2) 64 (0, 0)) ∧ Disk.Turned (fun c => c = C ∨ c = E) x11 wz) := ⟨by rw [← hwz]; exact bk40_set HK.out.1 k2 hk40 b0, by rw [← hwz]; exact (heap_setCell_other wr ⟨C, k2, none⟩ E _ (fun e => HLT.out.2.2.2.2.2.2.2 (by have e' : E = C := e; exact e'.symm))).trans HK.out.2.1, by rw [← hwz]; exact turned_set HK.out.2.2 C k2 _ (.inl rfl)⟩
                      have HE : Box ((wz.setCell ⟨C, k3, none⟩ (.bool b1)).heap[C]? = some (.cells (bk40 (fun j => if j < 2 * (k + 1) then cntOf sd2 j else cntOf side j)) 63 (0, 0)) ∧ (wz.setCell ⟨C, k3, none⟩ (.bool b1)).heap[E]? = some (.cells (ik16 sd2) 64 (0, 0)) ∧ Disk.Turned (fun c => c = C ∨ c = E) x11 (wz.setCell ⟨C, k3, none⟩ (.bool b1))) := ⟨by
                        rw [bk40_set HZ.out.1 k3 hk41 b1]
                        congr 2
                        refine bk40_congr (fun j hj => ?_)
                        have c0 : cntOf sd2 k2 = b0 := by
                          unfold cntOf
                          rw [← hb0, show k2 / 2 = k by omega, hzz, show k2 % 2 = 0 by omega]
                          rw [show (zz == 0) = decide (zz = 0) from rfl]
                          exact decide_eq_decide.2 ⟨fun h => h.2, fun h => ⟨by omega, h⟩⟩
                        have c1 : cntOf sd2 k3 = b1 := by
                          unfold cntOf
                          rw [← hb1, show k3 / 2 = k by omega, hzz, show k3 % 2 = 1 by omega]
                          rw [show (zz == 1) = decide (zz = 1) from rfl]
                          exact decide_eq_decide.2 ⟨fun h => h.2, fun h => ⟨by omega, h⟩⟩
                        by_cases e1 : j = k3
                        · rw [if_pos e1, if_pos (by omega), e1, c1]
                        · rw [if_neg e1]
                          by_cases e2 : j = k2
                          · rw [if_pos e2, if_pos (by omega), e2, c0]
                          · rw [if_neg e2]
                            by_cases e3 : j < 2 * k
                            · rw [if_pos e3, if_pos (by omega)]
                            · rw [if_neg e3, if_neg (by omega)], (heap_setCell_other wz ⟨C, k3, none⟩ E _ (fun e => HLT.out.2.2.2.2.2.2.2 (by have e' : E = C := e; exact e'.symm))).trans HZ.out.2.1, turned_set HZ.out.2.2 C k3 _ (.inl rfl)⟩
                      obtain ⟨he2, _⟩ := ik16_cell HZ.out.2.1 k hlt
                      rw [hzz] at he2
                      obtain ⟨hc3, hf3⟩ := bk40_cell HZ.out.1 k3 hk41
                      generalize (if k2 < 2 * k then cntOf sd2 k2 else cntOf side k2) = bv at hc0
                      generalize (if k3 = k2 then b0 else if k3 < 2 * k then cntOf sd2 k3 else cntOf side k3) = bv3 at hc3
                      clear HK HZ hzz hk2 hk3
                      go_upto_region 45 with fail
                      (try simp only [hwz])
                      clear hwz hc0 hf0 he1 hlt1
                      go_wp2
                      go_roundw
                      case rel => exact ⟨k + 1, HMK.out, by go_num, HE⟩
                      case measure => simp [intOf]; omega
                    · have hkn : k = 16 := by omega
                      have hlt1 : decide ((k : Int) < 16) = false := by simp; omega
                      have HE : Box (Ss x1 wr V D fp9 K sa sc C E (i + 1) (Disk.flOk d1) nx1 R1 sd2) := ⟨by
                        have t := HK.out.2.2
                        refine ⟨vc_turned HVC.out.1 t HVC.out.2 HSA.out, HSD2.out, HNEW.out.1, HNEW.out.2, HP.out.2.2.2.2.2.2.2.1, HVC.out.2.turned t, ?_, HK.out.2.1, HP.out.2.2.2.2.2.2.2.2⟩
                        rw [HK.out.1]
                        congr 2
                        refine bk40_congr (fun j hj => ?_)
                        by_cases e : j < 2 * k
                        · rw [if_pos e]
                        · rw [if_neg e]
                          unfold cntOf
                          rw [decide_eq_false (fun h => e (by omega)), decide_eq_false (fun h => e (by omega))]⟩
                      have hw4 : IntKind.i64.wrap ((i : Int) + 1) = ((i + 1 : Nat) : Int) := by rw [IntKind.wrap_i64]; have := HML.out.2; omega
                      clear HK hkn hk
                      go_wp2
                      exact ⟨⟨i + 1, fp9, Disk.flOk d1, nx1, R1, sd2, HML.out.1, by go_num, HE⟩, by simp [intOf]; have := HML.out.1; omega⟩
        · have hin : i = n := by omega
          have hlt1 : decide ((i : Int) < (n : Int)) = false := by simp; omega
          have HF : Box (Below w.heap.size w wr) := ⟨(HX.out wr (below_to H1.out HG.out.vc.cx.bel)).2.2.2.2⟩
          clear HG
          go_wp2
          go_ret
          exact ⟨rfl, HF.out⟩
end Go.Proofs.YthbbijaikcmaeaaGreatDoor
