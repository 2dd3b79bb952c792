/-
  VaultKeeps: behind an update that is adopted blocks are what they were, but for those that were written; before it is adopted, even if only some of what was written is there, the old ones are read.
-/
import Derived.Test.YthbbijaikcmaeaaGreatDoorR42
namespace Go.Proofs.YthbbijaikcmaeaaGreatDoor
set_option maxRecDepth 100000
set_option linter.unusedVariables false
set_option maxRecDepth 100000
open Go.RowKit Go.Shelf Plain Go.Proofs.YthbbijaikcmaeaaGreatDoor.Shap.Plain
attribute [local go_sem] Oper.semAt_some
set_option maxHeartbeats 16000000 in
theorem vaultKeeps_core (K : List Int) (hK : K.length = 32 ∧ Byt K) (lf : Nat) (hlf : lf < 256) (a : Option Addr) (capa : Nat) (MA : List Rec.Im) (b : Option Addr) (capb : Nat) (MB : List Rec.Im) (ka : Option Addr) (kl kc : Nat) (KB : List Bool) (w : World) (hT : Dig.Tabs w) (hT2 : Seal.Tab w) (hA : Rec.Imgs w a MA) (hB : Rec.Imgs w b MB) (hKB : Disk.Bools w ka kl KB) (hkl : kl ≤ maxLen) :
    Calls Tryz.prog 3 #[.agg (u8s K), .int .u8 (lf : Int), .slice a MA.length capa, .slice b MB.length capb, .slice ka kl kc] w fun e w' => e = .returned (.bool true) ∧ Below w.heap.size w w' := by
  obtain ⟨S, hS⟩ : ∃ S, w.heap.size = S := ⟨_, rfl⟩
  obtain ⟨AK, HAK⟩ : ∃ A, Box (u8s K = A) := ⟨_, ⟨rfl⟩⟩
  rw [HAK.out]
  obtain ⟨RZ, HRZ⟩ : ∃ A, Box (ra zr = A) := ⟨_, ⟨rfl⟩⟩
  obtain ⟨w1, hw1⟩ : ∃ w1, w.alloc (.cells AK 23) = w1 := ⟨_, rfl⟩
  have hb1 : Below w.heap.size w w1 := by rw [← hw1]; exact (Below.refl _ _).alloc (Nat.le_refl _) _
  have r1 : w1.heap[S]? = some (.cells AK 23 (0, 0)) := by rw [← hw1]; exact al_at hS
  have HAW : Box (Calls Tryz.prog 7 #[] w1 fun e w' => e = .returned (.bool true) ∧ Below w1.heap.size w1 w') := ⟨awake_v w1 (hT.below hb1) (hT2.below hb1)⟩
  have HX : Box (∀ x, Below w1.heap.size w1 x → x.rangeAt S 0 (K.map (Value.int .u8)) ∧ Dig.Tabs x ∧ Seal.Tab x ∧ Rec.Imgs x a MA ∧ Rec.Imgs x b MB ∧ Below w.heap.size w x ∧ Disk.Bools x ka kl KB) := ⟨fun x hx => ⟨fun j q hq => by
    rw [cell_of_row _ _ _ _ _ _ ((hx.block S (Array.getElem?_eq_some_iff.1 r1).1).trans r1), Nat.zero_add, ← HAK.out]
    simpa [u8s] using hq, hT.below (below_to hb1 hx), hT2.below (below_to hb1 hx), hA.below (below_to hb1 hx), hB.below (below_to hb1 hx), below_to hb1 hx, hKB.turned (Disk.Turned.of_below (fp := fun _ => False) (below_to hb1 hx)) (fun _ _ _ => id)⟩⟩
  have HKB : Box ((∀ ad, ka = some ad → 0 < kl → ad.block < w1.heap.size) ∧ kl ≤ maxLen) := ⟨fun ad e h0 => by
    obtain ⟨b', o', e', hlt, _⟩ := hKB.2 h0
    rw [e] at e'
    cases e'
    exact Nat.lt_of_lt_of_le hlt hb1.size, hkl⟩
  have HKI : Box ((Tryz.prog.info? 23).map (·.size) = some (K.map (Value.int .u8)).length ∧ (K.map (Value.int .u8)).toArray = AK ∧ K.length = 32 ∧ Byt K) := ⟨by rw [List.length_map, hK.1]; exact infoSum, by rw [← HAK.out]; rfl, hK⟩
  have HS : Box (w.heap.size = S) := ⟨hS⟩
  obtain ⟨q, hq⟩ : ∃ q, lf % 20 = q := ⟨_, rfl⟩
  obtain ⟨n, hn⟩ : ∃ n, q + 1 = n := ⟨_, rfl⟩
  have HQ : Box (1 ≤ n ∧ n ≤ 20 ∧ 2 * off n (topL n + 1) ≤ 80) := ⟨by omega, by omega, off20 ⟨n, by omega⟩ (by show 1 ≤ n; omega)⟩
  have hwq : (lf : Int) % 20 = (q : Int) := by omega
  have hwq2 : (lf : Int).tmod 20 = (q : Int) := by rw [← hq]; rfl
  have hwi : IntKind.i64.wrap (q : Int) = (q : Int) := by rw [IntKind.wrap_i64]; omega
  have hwn : IntKind.i64.wrap ((q : Int) + 1) = (n : Int) := by rw [IntKind.wrap_i64]; omega
  obtain ⟨d0, hd0⟩ : ∃ d0, Disk.dk0 80 = d0 := ⟨_, rfl⟩
  have HD0 : Box (Up d0 ∧ d0.n = 80 ∧ d0.ops.length = 0 ∧ d0.uw.length = 0 ∧ (0 ≤ d0.left ∧ d0.left ≤ 9223372036854775807)) := ⟨by rw [← hd0]; exact ⟨⟨rfl, rfl⟩, rfl, rfl, rfl, by decide, by decide⟩⟩
  have HRI : Box ((Tryz.prog.info? 36).map (·.size) = some RZ.size ∧ (ra zr).size = RZ.size ∧ RZ.all (·.oneCell') = true ∧ (Tryz.prog.info? 36).map (·.size) = some (rc zr).length ∧ (rc zr).toArray = RZ) := ⟨by rw [← HRZ.out, size_ra okR_zr]; exact infoR, by rw [HRZ.out], by rw [← HRZ.out]; exact all_ra zr, by rw [rc_len okR_zr]; exact infoR, by rw [← HRZ.out]; rfl⟩
  clear hT hT2 hA hB hK hb1 r1 hS hlf hq hn hKB hkl
  go_enter Tryz.func3, Tryz.ntmps3
  go_upto_region 1 with fail
  (try simp only [HS.out])
  clear hw1
  go_upto_region 4 with (go_at_call 7; refine HAW.out.mono ?_; rintro e x1 ⟨rfl, hb⟩; have H1 : Box (Below w1.heap.size w1 x1) := ⟨hb⟩; clear hb)
  clear HAW
  by_cases h8a : 8 < MA.length
  · have hd8 : decide ((8 : Int) < (MA.length : Int)) = true := by simp; omega
    go_wp2
    go_ret
    exact ⟨rfl, (HX.out x1 H1.out).2.2.2.2.2.1⟩
  have hd8 : decide ((8 : Int) < (MA.length : Int)) = false := by simp; omega
  by_cases h8b : 8 < MB.length
  · have hd9 : decide ((8 : Int) < (MB.length : Int)) = true := by simp; omega
    go_wp2
    go_ret
    exact ⟨rfl, (HX.out x1 H1.out).2.2.2.2.2.1⟩
  have hd9 : decide ((8 : Int) < (MB.length : Int)) = false := by simp; omega
  obtain ⟨na, hna⟩ : ∃ n, MA.length = n := ⟨_, rfl⟩
  obtain ⟨nb, hnb⟩ : ∃ n, MB.length = n := ⟨_, rfl⟩
  have HN : Box (MA.length = na ∧ MB.length = nb) := ⟨hna, hnb⟩
  rw [hna] at h8a hd8
  rw [hnb] at h8b hd9
  rw [hna, hnb]
  clear hna hnb
  go_upto_region 7 with fail
  clear hd8 hd9 hwq hwq2 hwi hwn
  obtain ⟨D, hD⟩ : ∃ D, x1.heap.size + 1 = D := ⟨_, rfl⟩
  have HD : Box (Calls Tryz.prog 8 #[.int .i64 80] x1 fun e w' => e = .returned (.tuple #[.pointer (some ⟨D, 0, none⟩), .int .i64 0]) ∧ ∃ fp, Disk.Cx x1 w' D fp d0) := ⟨by have := Disk.new_cx x1 80 ⟨by omega, by omega⟩; rw [hD, hd0] at this; exact this⟩
  clear hD hd0
  go_upto_region 8 with (go_at_call 8; refine HD.out.mono ?_; rintro e x2 ⟨rfl, fp2, hc⟩; have H2 : Box (Disk.Cx x1 x2 D fp2 d0) := ⟨hc⟩; clear hc)
  clear HD
  have HVN : Box (Calls Tryz.prog 9 #[.pointer (some ⟨D, 0, none⟩), .agg AK, .int .i64 (n : Int), .agg RZ, .int .u64 1, .int .u64 1099511627776] x2 fun e w' => ∃ V fp' sa sc, e = .returned (.tuple #[.pointer (some ⟨V, 0, none⟩), .int .i64 0]) ∧ VC x1 w' V D fp' ⟨K, n, zr, 1, 1099511627776⟩ d0 sa sc) := ⟨by
    have hx := HX.out x1 H1.out
    have hQ := HQ.out
    have := vnew_ok H2.out K HKI.out.2.2 n (by omega) (by omega) zr okR_zr 1 1099511627776 ⟨by omega, by omega⟩ ⟨by omega, by omega⟩ hx.2.1 hx.2.2.1 (by rw [HD0.out.2.1]; exact hQ.2.2) (by omega) (by omega)
    rw [HAK.out, HRZ.out] at this
    exact this.mono fun e w' ⟨V, fp', sa, sc, h1, h2, _⟩ => ⟨V, fp', sa, sc, h1, h2⟩⟩
  have HRG : Box (x2.rangeAt S 0 (K.map (Value.int .u8))) := ⟨(HX.out x2 (below_to H1.out H2.out.bel)).1⟩
  go_upto_region 11 with (first
    | (refine atLoad 23 ?_; refine wpList_ldMid rfl 23 _ _ rfl Tryz.underlying23 rfl S 0 rfl (K.map (Value.int .u8)) HKI.out.1 HRG.out ?_; rw [HKI.out.2.1])
    | (refine atBuild 36 ?_; refine wpList_run rfl _ _ (exec_built 36 [] rfl [] rfl RZ (by rw [← HRZ.out]; exact built_R0)) ?_)
    | (go_at_call 9; refine HVN.out.mono ?_; rintro e x3 ⟨V, fp3, sa, sc, rfl, hc⟩; have H3 : Box (VC x1 x3 V D fp3 ⟨K, n, zr, 1, 1099511627776⟩ d0 sa sc) := ⟨hc⟩; clear hc))
  clear HVN HRG H2
  obtain ⟨g, hg⟩ : ∃ g, x3.heap.size = g := ⟨_, rfl⟩
  obtain ⟨x4, hx4⟩ : ∃ x, x3.alloc (.cells (Disk.nils 20).toArray 38) = x := ⟨_, rfl⟩
  have H4 : Box (Ni x3 x4 g 0 []) := ⟨⟨by rw [← hx4]; exact al_at hg, rfl, fun i hi => absurd hi (by simp), fun i hi => absurd hi (by simp), by omega, by rw [← hx4]; exact (Below.refl _ _).alloc (Nat.le_refl _) _⟩⟩
  go_upto_region 13 with (refine wpList_run rfl _ _ (exec_make20 _ _ rfl rfl rfl) ?_)
  (try simp only [hg, hx4])
  have HGS : Box (x3.heap.size = g) := ⟨hg⟩
  clear hg hx4
  --A
  go_loopw [18] (fun i wr => ∃ (k : Nat) (A : List (Option Addr × Nat)), k ≤ 20 ∧ i = .int .i64 (k : Int) ∧ Box (Ni x3 wr g k A)) (fun i _ => 20 - (intOf i).toNat)
  case atStart => exact ⟨0, [], Nat.zero_le _, rfl, H4⟩
  case round =>
    clear H4
    obtain ⟨k, A, hk, rfl, HG⟩ := hrel
    by_cases hlt : k < 20
    · have hlt1 : decide ((k : Int) < 20) = true := by simp; omega
      obtain ⟨wx, hwx⟩ : ∃ x, wr.alloc (.cells (u8s y160) 5) = x := ⟨_, rfl⟩
      have hcc := HG.out.cell hlt (.cells (u8s y160) 5)
      have HST := HG.out.step hlt
      rw [hwx] at hcc HST
      obtain ⟨hc1, hc2⟩ := hcc
      obtain ⟨Gx, hGx⟩ : ∃ x, wr.heap.size = x := ⟨_, rfl⟩
      rw [hGx] at HST
      have HST : Box _ := ⟨HST⟩
      have HML : Box (k < 20) := ⟨hlt⟩
      have hw4 : IntKind.i64.wrap ((k : Int) + 1) = ((k + 1 : Nat) : Int) := by rw [IntKind.wrap_i64]; omega
      generalize A ++ [(some ⟨Gx, 0, none⟩, 160)] = A2 at HST
      clear HG
      go_wp2_with (first
        | (refine Rec.atIdx 37 ?_; refine wpList_run rfl _ _ (exec_idxNw _ _ rfl g 20 20 k rfl rfl HML.out) ?_)
        | (refine wpList_run rfl _ _ (exec_make160 _ _ rfl rfl rfl) ?_; (try simp only [hwx, hGx])))
      go_roundw
      case rel => exact ⟨k + 1, A2, HML.out, by go_num, HST⟩
      case measure => simp [intOf]; omega
    · have hkn : k = 20 := by omega
      have hlt1 : decide ((k : Int) < 20) = false := by simp; omega
      have HN1 : Box (Nw wr (fun b => x3.heap.size ≤ b ∧ b < wr.heap.size) g A (fun _ => y160) ∧ Below x3.heap.size x3 wr) := ⟨(hkn ▸ HG.out).done, HG.out.bel⟩
      clear HG hkn hk
      obtain ⟨y1, hy1⟩ : ∃ y, y = wr := ⟨_, rfl⟩
      rw [← hy1] at HN1 ⊢
      clear hy1
      obtain ⟨F0, hF0⟩ : ∃ F : Nat → List Int, (fun _ => y160) = F := ⟨_, rfl⟩
      rw [hF0] at HN1
      have HF0 : Box ((fun _ => y160) = F0) := ⟨hF0⟩
      clear hF0
      --B
      have HIM : Box (Calls Tryz.prog 10 #[.slice a na capa, .bool false] y1 fun e w' => ∃ xa xc X, e = .returned (.slice xa na xc) ∧ Kq n x3 w' (.slice xa na xc) na 0 g X A (nF F0 X 0)) := ⟨by
        have hx := HX.out y1 (below_to H1.out (below_to H3.out.cx.bel HN1.out.2))
        have hN := HN.out
        have := Rec.images_any a capa MA false y1 hx.2.2.2.1 (by omega)
        rw [hN.1] at this
        refine this.mono ?_
        rintro e w' ⟨v, X, rfl, h⟩
        have hl : X.length = na := h.len.trans (by omega)
        have hr := h.im.row
        rw [hl] at hr
        obtain ⟨xa, xc, rfl⟩ := Rec.own_form2 hr
        have hlo : x3.heap.size ≤ y1.heap.size := HN1.out.2.size
        have hb : Below y1.heap.size y1 w' := h.bel
        refine ⟨xa, xc, X, rfl, ⟨⟨Rec.own_low2 h.im.row hlo, fun m hm => (h.im.byt m hm).low hlo⟩, hl, fun m hm => img_bl h m hm, fun i hi hk => absurd hk (by omega), below_to HN1.out.2 hb⟩, ?_⟩
        rw [nF_zero]
        exact (HN1.out.1.same (fun b hk => hb.block b hk.2) hb.size).more (fun b hk => ⟨hk.1, Nat.lt_of_lt_of_le hk.2 hb.size⟩)⟩
      go_upto_region 18 with (go_at_call 10; refine HIM.out.mono ?_; rintro e x5 ⟨xa, xc, X, rfl, hkq⟩; have H5 : Box (Kq n x3 x5 (.slice xa na xc) na 0 g X A (nF F0 X 0)) := ⟨hkq⟩; clear hkq)
      clear HIM HN1 hlt1
      have hQ1 := HQ.out.1
      have hQ2 := HQ.out.2.1
      have hwun : IntKind.u64.wrap (n : Int) = (n : Int) := by rw [IntKind.wrap_u64]; omega
      have hn0 : ¬ (n : Int) = 0 := by omega
      have hn1 : ((n : Int) == 0) = false := by simp; omega
      have hn2 : ¬ n = 0 := by omega
      --C
      go_loopw [20] (fun i wr => ∃ (k : Nat) (Y : List Rec.Im) (A : List (Option Addr × Nat)), k ≤ na ∧ i = .int .i64 (k : Int) ∧ Box (Kq n x3 wr (.slice xa na xc) na k g Y A (nF F0 Y k))) (fun i _ => na - (intOf i).toNat)
      case atStart => exact ⟨0, X, A, Nat.zero_le _, rfl, H5⟩
      case round =>
        clear H5
        obtain ⟨k, Y, A1, hk, rfl, HG⟩ := hrel
        by_cases hlt : k < na
        · have hlt1 : decide ((k : Int) < (na : Int)) = true := by simp; omega
          have hkY : k < Y.length := by rw [HG.out.md.len]; exact hlt
          obtain ⟨gI, rfl, hg1, hg2⟩ := oimgs_form HG.out.md.im (by omega)
          have HML : Box (k < na) := ⟨hlt⟩
          obtain ⟨hc1, hc2⟩ := oimgs_cell HG.out.md.im k hkY
          obtain ⟨bk, hbk⟩ : ∃ b, Y[k].blk = b := ⟨_, rfl⟩
          have hb0 : 0 ≤ bk := by rw [← hbk]; exact ((HG.out.md.im.byt Y[k] (List.getElem_mem hkY)).num).1
          have hzz : 0 ≤ bk % (n : Int) ∧ bk % (n : Int) < (n : Int) := ⟨Int.emod_nonneg _ (by omega), Int.emod_lt_of_pos _ (by omega)⟩
          obtain ⟨z, hz⟩ : ∃ z : Nat, bk % (n : Int) = (z : Int) := ⟨(bk % (n : Int)).toNat, by omega⟩
          have hzn : z < n := by omega
          have hz2 : bk.tmod (n : Int) = (z : Int) := by rw [← hz]; exact Int.tmod_eq_emod_of_nonneg hb0
          obtain ⟨wz, hwz⟩ : ∃ x, wr.setCell ⟨gI, k * 2, none⟩ (.int .u64 (z : Int)) = x := ⟨_, rfl⟩
          have HST := HG.out.one hkY (by omega) (by omega) z (by rw [hbk]; exact hz)
          rw [hwz] at HST
          have HY2 : Box ((Y.set k { Y[k] with blk := (z : Int) }).length = na) := ⟨by rw [List.length_set]; exact HG.out.md.len⟩
          have hget : (Y.set k { Y[k] with blk := (z : Int) })[k]? = some { Y[k] with blk := (z : Int) } := by rw [List.getElem?_set_self hkY]
          obtain ⟨⟨mb, ba, bl, bc, bs⟩, hm⟩ : ∃ m, { Y[k] with blk := (z : Int) } = m := ⟨_, rfl⟩
          rw [hm] at hget HST HY2
          have hmb : mb = (z : Int) := by
            have := congrArg Rec.Im.blk hm
            exact this.symm
          subst hmb
          generalize Y.set k ⟨(z : Int), ba, bl, bc, bs⟩ = Y2 at hget HST HY2
          have HST : Box (Kq n x3 wz (.slice (some ⟨gI, 0, none⟩) na xc) na (k + 1) g Y2 A1 (nF F0 Y2 k)) := ⟨HST⟩
          have HGT : Box (∃ h : k < Y2.length, Y2[k] = ⟨(z : Int), ba, bl, bc, bs⟩) := ⟨List.getElem?_eq_some_iff.1 hget⟩
          have hbl : bl = 160 := by
            obtain ⟨h1, h2⟩ := HGT.out
            have := HST.out.md.bl Y2[k] (List.getElem_mem h1)
            rw [h2] at this
            exact this
          subst hbl
          have HZ : Box (z < n ∧ z < 20) := ⟨hzn, by omega⟩
          have hw4 : IntKind.i64.wrap ((k : Int) + 1) = ((k + 1 : Nat) : Int) := by rw [IntKind.wrap_i64]; omega
          rw [hbk] at hc1
          have hz5 : bk % (n : Int) = (z : Int) := hz
          clear HG hkY hbk hg1 hg2 hb0 hz hzz hzn hm hget
          go_upto_region 21 with (refine Rec.atIdx 24 ?_; refine wpList_run rfl _ _ (Rec.exec_idxT 24 41 Tryz.underlying24 2 Rec.infoIm _ _ rfl gI 0 na xc k rfl rfl HML.out) ?_)
          (try simp only [hwz])
          clear hwz hc1 hc2 hz2 hz5
          have HCG : Box (∀ x : World, (∀ c, c ≠ g → x.heap[c]? = wz.heap[c]?) → x.cell? ⟨gI, 0 + k * 2, none⟩ = some (.int .u64 (z : Int)) ∧ x.cell? ⟨gI, 0 + k * 2 + 1, none⟩ = some (.slice ba 160 bc)) := ⟨fun x hx => by
            obtain ⟨h1, h2⟩ := HGT.out
            have hI : Rec.Imgs wz (some ⟨gI, 0, none⟩) Y2 := Rec.OImgs.imgs (c := xc) (by rw [HY2.out]; exact HST.out.md.im)
            obtain ⟨b', o', e', hlt', hr'⟩ := hI.tb (by omega)
            cases e'
            have hr := hr' k h1
            rw [h2] at hr
            have hne : gI ≠ g := by
              obtain ⟨cs, hcs⟩ := (Rec.own_blk HST.out.md.im.row gI rfl).2
              rintro rfl
              have := HST.out.nw.row
              rw [hcs] at this
              simp only [Option.some.injEq, Obj.cells.injEq] at this
              exact absurd this.2.1 (by decide)
            exact ⟨(World.cell?_of_block (hx gI hne)).trans (hr 0 _ rfl), (World.cell?_of_block (hx gI hne)).trans (hr 1 _ rfl)⟩⟩
          refine Disk.begin_keep (S := fun x => ∀ c, c ≠ g → x.heap[c]? = wz.heap[c]?) (by kernel_rfl) (fun wd hwd => ?_)
          have hbd : Below wz.heap.size wz wd := by rw [hwd]; exact (Below.refl _ _).drew
          have hS : ∀ c, c ≠ g → wd.heap[c]? = wz.heap[c]? := fun c _ => by rw [hwd]; rfl
          have HSD : Box (Kq n x3 wd (.slice (some ⟨gI, 0, none⟩) na xc) na (k + 1) g Y2 A1 (nF F0 Y2 k)) := ⟨HST.out.below hbd⟩
          have hrg := HSD.out.nw.row
          clear hwd hbd
          refine take_s (i := 0) (v := ?_) rfl (by kernel_rfl) (by kernel_rfl) (by kernel_rfl) (fun _ _ _ h => h) (by rfl) ?_ hS ?_
          rotate_left
          · intro w' hLat; clear hLat; go_simp <;> with_reducible rfl
          try simp only [Act.put, List.setIfInBounds_toArray, List.set_cons_zero, List.set_cons_succ, List.getElem_toArray, List.getElem_cons_zero]
          refine take_s (i := 1) (v := ?_) rfl (by kernel_rfl) (by kernel_rfl) (by kernel_rfl) (fun _ _ _ h => h) (by rfl) ?_ hS ?_
          rotate_left
          · intro w' hLat; clear hLat; go_simp <;> with_reducible rfl
          try simp only [Act.put, List.setIfInBounds_toArray, List.set_cons_zero, List.set_cons_succ, List.getElem_toArray, List.getElem_cons_zero, List.getElem_cons_succ]
          refine take_s (i := 2) (v := ?_) rfl (by kernel_rfl) (by kernel_rfl) (by kernel_rfl) (fun _ _ _ h => h) (by rfl) ?_ hS ?_
          rotate_left
          · intro w' hLat; clear hLat; go_simp <;> with_reducible rfl
          try simp only [Act.put, List.setIfInBounds_toArray, List.set_cons_zero, List.set_cons_succ, List.getElem_toArray, List.getElem_cons_zero, List.getElem_cons_succ]
          refine take_s (i := 3) (v := .pointer (some ⟨gI, 0 + k * 2, none⟩)) rfl (by kernel_rfl) (by kernel_rfl) (by kernel_rfl) (fun _ _ _ h => h) (by rfl) (fun w' hLat => exec_idxIm _ _ rfl gI 0 na xc k rfl rfl HML.out) hS ?_
          try simp only [Act.put, List.setIfInBounds_toArray, List.set_cons_zero, List.set_cons_succ, List.getElem_toArray, List.getElem_cons_zero, List.getElem_cons_succ]
          refine take_s (i := 4) (v := ?_) rfl (by kernel_rfl) (by kernel_rfl) (by kernel_rfl) (fun _ _ _ h => h) (by rfl) ?_ hS ?_
          rotate_left
          · intro w' hLat; clear hLat; go_simp <;> with_reducible rfl
          try simp only [Act.put, List.setIfInBounds_toArray, List.set_cons_zero, List.set_cons_succ, List.getElem_toArray, List.getElem_cons_zero, List.getElem_cons_succ]
          refine take_s (i := 5) (v := .int .u64 (z : Int)) rfl (by kernel_rfl) (by kernel_rfl) (by kernel_rfl) (fun _ _ _ h => h) (by rfl) (fun w' hLat => Disk.exec_load1 34 _ _ rfl Tryz.underlying34 rfl _ rfl _ (by have h9 := (HCG.out w' hLat).1; simpa using h9)) hS ?_
          try simp only [Act.put, List.setIfInBounds_toArray, List.set_cons_zero, List.set_cons_succ, List.getElem_toArray, List.getElem_cons_zero, List.getElem_cons_succ]
          refine take_s (i := 6) (v := ?_) rfl (by kernel_rfl) (by kernel_rfl) (by kernel_rfl) (fun _ _ _ h => h) (by rfl) ?_ hS ?_
          rotate_left
          · intro w' hLat; clear hLat; go_simp <;> with_reducible rfl
          try simp only [Act.put, List.setIfInBounds_toArray, List.set_cons_zero, List.set_cons_succ, List.getElem_toArray, List.getElem_cons_zero, List.getElem_cons_succ]
          refine take_s (i := 7) (v := ?_) rfl (by kernel_rfl) (by kernel_rfl) (by kernel_rfl) (fun _ _ _ h => h) (by rfl) ?_ hS ?_
          rotate_left
          · intro w' hLat; clear hLat; go_simp <;> with_reducible rfl
          try simp only [Act.put, List.setIfInBounds_toArray, List.set_cons_zero, List.set_cons_succ, List.getElem_toArray, List.getElem_cons_zero, List.getElem_cons_succ]
          refine take_s (i := 8) (v := .pointer (some ⟨gI, 0 + k * 2, none⟩)) rfl (by kernel_rfl) (by kernel_rfl) (by kernel_rfl) (fun _ _ _ h => h) (by rfl) (fun w' hLat => exec_idxIm _ _ rfl gI 0 na xc k rfl rfl HML.out) hS ?_
          try simp only [Act.put, List.setIfInBounds_toArray, List.set_cons_zero, List.set_cons_succ, List.getElem_toArray, List.getElem_cons_zero, List.getElem_cons_succ]
          refine take_s (i := 9) (v := ?_) rfl (by kernel_rfl) (by kernel_rfl) (by kernel_rfl) (fun _ _ _ h => h) (by rfl) ?_ hS ?_
          rotate_left
          · intro w' hLat; clear hLat; go_simp <;> with_reducible rfl
          try simp only [Act.put, List.setIfInBounds_toArray, List.set_cons_zero, List.set_cons_succ, List.getElem_toArray, List.getElem_cons_zero, List.getElem_cons_succ]
          refine take_s (i := 10) (v := .slice ba 160 bc) rfl (by kernel_rfl) (by kernel_rfl) (by kernel_rfl) (fun _ _ _ h => h) (by rfl) (fun w' hLat => Disk.exec_load1 38 _ _ rfl Tryz.underlying38 rfl _ rfl _ (by have h9 := (HCG.out w' hLat).2; simpa using h9)) hS ?_
          try simp only [Act.put, List.setIfInBounds_toArray, List.set_cons_zero, List.set_cons_succ, List.getElem_toArray, List.getElem_cons_zero, List.getElem_cons_succ]
          refine take_s (i := 11) (v := .pointer (some ⟨g, 0 + z * 1, none⟩)) rfl (by kernel_rfl) (by kernel_rfl) (by kernel_rfl) (fun _ _ _ h => h) (by rfl) (fun w' hLat => exec_idxNwU _ _ rfl g 20 20 z rfl rfl HZ.out.2) hS ?_
          try simp only [Act.put, List.setIfInBounds_toArray, List.set_cons_zero, List.set_cons_succ, List.getElem_toArray, List.getElem_cons_zero, List.getElem_cons_succ]
          refine Disk.one_keep (i := 12) (by kernel_rfl) ?_
          refine Disk.keep_step rfl (by rfl) ?_
          refine Disk.wp_store_one 38 (.tmp 97) (.tmp 96) rfl (by kernel_rfl) (.slice ba 160 bc) rfl rfl rfl (D := g) (k := 0 + z * 1) rfl (by rw [cell_of_row _ _ _ _ _ _ hrg, nwc_get A1 (0 + z * 1) (by rw [HSD.out.nw.len]; have := HZ.out.2; omega)]; rfl) (frozen_of_row _ _ _ _ _ hrg) ?_
          obtain ⟨y, hy⟩ : ∃ y, wd.setCell ⟨g, 0 + z * 1, none⟩ (.slice ba 160 bc) = y := ⟨_, rfl⟩
          rw [hy]
          have hSy : ∀ c, c ≠ g → y.heap[c]? = wz.heap[c]? := fun c hc => by rw [← hy, heap_setCell_other wd ⟨g, 0 + z * 1, none⟩ c _ hc]; exact hS c hc
          refine ⟨hSy, ?_⟩
          replace hS := hSy
          clear hSy hrg
          try simp only [Act.put, List.getElem_toArray, List.getElem_cons_zero, List.getElem_cons_succ]
          refine wpAnyH_done (by kernel_rfl) ?_ _
          have HE : Box (Kq n x3 y (.slice (some ⟨gI, 0, none⟩) na xc) na (k + 1) g Y2 (A1.set z (ba, bc)) (nF F0 Y2 (k + 1))) := ⟨by
            obtain ⟨h1, h2⟩ := HGT.out
            have := HSD.out.two h1 z (by rw [h2])
            rw [h2] at this
            rw [← hy]
            simpa using this⟩
          clear hS hy HSD HCG HGT HST HY2
          generalize A1.set z (ba, bc) = A2 at HE
          go_wp2
          go_roundw
          case rel => exact ⟨k + 1, Y2, A2, HML.out, by go_num, HE⟩
          case measure => simp [intOf]; omega
        · have hkn : k = na := by omega
          have hlt1 : decide ((k : Int) < (na : Int)) = false := by simp; omega
          have HK : Box (Kq n x3 wr (.slice xa na xc) na na g Y A1 (nF F0 Y na)) := ⟨hkn ▸ HG.out⟩
          clear HG hkn hk
          obtain ⟨y2, hy2⟩ : ∃ y, y = wr := ⟨_, rfl⟩
          rw [← hy2] at HK ⊢
          clear hy2
          --D
          obtain ⟨F1, hF1⟩ : ∃ F, nF F0 Y na = F := ⟨_, rfl⟩
          have HF1 : Box (newF F0 (lastB (LM (Y.map toIm))) = F1) := ⟨by
            rw [LM_to, ← hF1, nF, List.take_of_length_le (by rw [HK.out.md.len]; exact Nat.le_refl _)]⟩
          rw [hF1] at HK
          clear hF1
          have HLA : Box (∀ x ∈ LM (Y.map toIm), x.2.length = 160 ∧ Byt x.2 ∧ 0 ≤ x.1 ∧ x.1 < (n : Int)) := ⟨fun x hx => img_ok HK.out.md x hx⟩
          have HU1 : Box (∃ d' nx' R, updM (Yk K) Xd n (topL n) 1099511627776 (LM (Y.map toIm)) d0 1 zr = (d', nx', 0, R) ∧ 1 ≤ nx' ∧ nx' ≤ 41 ∧ OkR R ∧ Good K n d' F1 R ∧ Gw d0 20000 d') := ⟨by
            have hQ := HQ.out
            obtain ⟨d', nx', R, e, h1, h2, h3, h4, _⟩ := good_any (good_new K n d0 HD0.out.1) (by omega) (by omega) (LM (Y.map toIm)) HLA.out 1 1099511627776 (by omega) (by omega) (by omega) okR_zr
            have hgw := gw_updM ⟨K, n, zr, 1, 1099511627776⟩ H3.out.ok (Y.map toIm) (fun m hm => by
              obtain ⟨y, hy, rfl⟩ := List.mem_map.1 hm
              exact (HK.out.md.im.byt y hy).byi.1.1) (fun m hm => by
              obtain ⟨y, hy, rfl⟩ := List.mem_map.1 hm
              exact (HK.out.md.im.byt y hy).num.1) d0
            rw [show updM (Yk (⟨K, n, zr, 1, 1099511627776⟩ : Vt).key) Xd (⟨K, n, zr, 1, 1099511627776⟩ : Vt).n (topL (⟨K, n, zr, 1, 1099511627776⟩ : Vt).n) (⟨K, n, zr, 1, 1099511627776⟩ : Vt).lim (LM (Y.map toIm)) d0 (⟨K, n, zr, 1, 1099511627776⟩ : Vt).nx (⟨K, n, zr, 1, 1099511627776⟩ : Vt).top = (d', nx', 0, R) from e] at hgw
            refine ⟨d', nx', R, e, h1, by omega, h3, ?_, hgw⟩
            rw [← HF1.out, ← HF0.out]
            exact h4⟩
          obtain ⟨d1, nx1, R1, hum1, hnx1, hnx1', hokR1, hgd1, hgw1⟩ := HU1.out
          have HP1 : Box (1 ≤ nx1 ∧ nx1 ≤ 41 ∧ OkR R1 ∧ Good K n d1 F1 R1 ∧ Gw d0 20000 d1) := ⟨hnx1, hnx1', hokR1, hgd1, hgw1⟩
          obtain ⟨RA, HRA⟩ : ∃ A, Box (ra R1 = A) := ⟨_, ⟨rfl⟩⟩
          have HRAI : Box ((Tryz.prog.info? 36).map (·.size) = some RA.size ∧ (ra zr).size = RA.size ∧ RA.all (·.oneCell') = true ∧ (Tryz.prog.info? 36).map (·.size) = some (rc R1).length ∧ (rc R1).toArray = RA) := ⟨by rw [← HRA.out, size_ra HP1.out.2.2.1]; exact infoR, by rw [← HRA.out, size_ra HP1.out.2.2.1, size_ra okR_zr], by rw [← HRA.out]; exact all_ra R1, by rw [rc_len HP1.out.2.2.1]; exact infoR, by rw [← HRA.out]; rfl⟩
          obtain ⟨M1, hM1⟩ : ∃ M : Nat → Prop, (fun c => x3.heap.size ≤ c ∧ c < y2.heap.size) = M := ⟨_, rfl⟩
          have HM1 : Box (Mn M1 x1 y2 V fp3 ∧ Nw y2 M1 g A1 F1) := ⟨by
            rw [← hM1]
            refine ⟨⟨fun c hc => hc.2, fun c hc hf => ?_, fun c hc => ?_, fun c hc => ?_⟩, HK.out.nw⟩
            · have := H3.out.cx.hi c hf; omega
            · have := H3.out.lt; omega
            · have := H3.out.cx.bel.size; omega⟩
          clear hM1
          have HUP : Box (Calls Tryz.prog 11 #[.pointer (some ⟨V, 0, none⟩), .slice xa na xc] y2 fun e w' => ∃ fp', e = .returned (.tuple #[.agg RA, .int .i64 0]) ∧ VC x1 w' V D fp' ⟨K, n, zr, nx1, 1099511627776⟩ d1 sa sc ∧ Mn M1 x1 w' V fp' ∧ Nw w' M1 g A1 F1) := ⟨by
            have hI : Imgs y2 xa (Y.map toIm) := imgs_to (Rec.OImgs.imgs (c := xc) (by rw [HK.out.md.len]; exact HK.out.md.im))
            have hV := H3.out.lt
            have hbk : ∀ m ∈ Y.map toIm, ∀ ad, m.ba = some ad → ¬ fp3 ad.block ∧ ad.block ≠ V := fun m hm ad e => by
              obtain ⟨y, hy, rfl⟩ := List.mem_map.1 hm
              have h := oim_blk (HK.out.md.im.byt y hy) ad e
              exact ⟨fun hf => by have := H3.out.cx.hi _ hf; omega, by omega⟩
            have hln : (Y.map toIm).length = na := by rw [List.length_map]; exact HK.out.md.len
            have := update_v (H3.out.below HK.out.md.bel) xa xc (Y.map toIm) hI (by rw [hln]; omega) hbk (by show (1 : Int) ≤ 1; omega) HD0.out.2.2.2.2 (by rw [HD0.out.2.2.1]; omega) (by rw [HD0.out.2.2.2.1]; omega)
            rw [show updM (Yk (⟨K, n, zr, 1, 1099511627776⟩ : Vt).key) Xd (⟨K, n, zr, 1, 1099511627776⟩ : Vt).n (topL (⟨K, n, zr, 1, 1099511627776⟩ : Vt).n) (⟨K, n, zr, 1, 1099511627776⟩ : Vt).lim (LM (Y.map toIm)) d0 (⟨K, n, zr, 1, 1099511627776⟩ : Vt).nx (⟨K, n, zr, 1, 1099511627776⟩ : Vt).top = (d1, nx1, 0, R1) from hum1, hln] at this
            refine this.mono ?_
            rintro e w' ⟨fp', g1, g2, g3⟩
            have hmf := HM1.out.1.fw g3
            exact ⟨fp', by rw [g1]; show Ending.returned (.tuple #[.agg (ra R1), .int .i64 0]) = _; rw [HRA.out], g2, hmf.1, HM1.out.2.same hmf.2 g3.size⟩⟩
          clear hum1 hnx1 hnx1' hokR1 hgd1 hgw1 HU1
          go_upto_region 23 with (first
            | (go_at_call 11; refine HUP.out.mono ?_; rintro e x6 ⟨fp6, rfl, g1, g2, g3⟩; have H6 : Box (VC x1 x6 V D fp6 ⟨K, n, zr, nx1, 1099511627776⟩ d1 sa sc ∧ Mn M1 x1 x6 V fp6 ∧ Nw x6 M1 g A1 F1) := ⟨g1, g2, g3⟩; clear g1 g2 g3)
            | (refine atAlloc _ ?_; refine wpList_run rfl _ _ (exec_alloc 36 rfl _ zeroR) ?_)
            | (refine atStore _ ?_; refine wpList_newRow x6 (ra zr) RA HRAI.out.1 HRAI.out.2.1 HRAI.out.2.2.1 rfl _ _ rfl rfl rfl rfl ?_; intro x7 h7 hb7; have H7 : Box (x7.heap[x6.heap.size]? = some (.cells RA 36 (0, 0)) ∧ Below x6.heap.size x6 x7) := ⟨h7, hb7⟩; clear h7 hb7))
          clear HUP HM1 hlt1 hlt
          obtain ⟨S6, hS6⟩ : ∃ S6, x6.heap.size = S6 := ⟨_, rfl⟩
          (try simp only [hS6])
          obtain ⟨M2, hM2⟩ : ∃ M : Nat → Prop, (fun c => M1 c ∨ x6.heap.size ≤ c ∧ c < x7.heap.size) = M := ⟨_, rfl⟩
          have H7a : Box (VC x1 x7 V D fp6 ⟨K, n, zr, nx1, 1099511627776⟩ d1 sa sc ∧ Mn M2 x1 x7 V fp6 ∧ Nw x7 M2 g A1 F1 ∧ x7.heap[S6]? = some (.cells RA 36 (0, 0)) ∧ M2 S6) := ⟨by
            have h6 := H6.out
            have h7 := H7.out
            have hl := (Array.getElem?_eq_some_iff.1 h7.1).1
            refine ⟨h6.1.below h7.2, by rw [← hM2]; exact h6.2.1.below h7.2 h6.1.cx.hi h6.1.lt h6.1.cx.bel.size, ?_, by rw [← hS6]; exact h7.1, by rw [← hM2]; exact .inr ⟨by omega, by omega⟩⟩
            rw [← hM2]
            exact (h6.2.2.same (fun c hc => h7.2.block c (h6.2.1.lt c hc)) h7.2.size).more (fun c hc => .inl hc)⟩
          clear hS6 H6 H7 hM2
          --E
          have HGW1 : Box (d1.ops.length ≤ 20000 ∧ d1.uw.length ≤ 20000 ∧ (0 ≤ d1.left ∧ d1.left ≤ 9223372036854775807) ∧ d1.n = 80) := ⟨by
            have h := HP1.out.2.2.2.2
            have h0 := HD0.out
            have h1 := h.ops
            have h2 := h.uw
            exact ⟨by omega, by omega, h.left h0.2.2.2.2, h.n.trans h0.2.1⟩⟩
          have HFL : Box (Calls Tryz.prog 12 #[.pointer (some ⟨D, 0, none⟩)] x7 fun e w' => e = .returned (.int .i64 0) ∧ ∃ fp', VC x1 w' V D fp' ⟨K, n, zr, nx1, 1099511627776⟩ (Disk.flOk d1) sa sc ∧ Mn M2 x1 w' V fp' ∧ Nw w' M2 g A1 F1 ∧ w'.heap[S6]? = some (.cells RA 36 (0, 0))) := ⟨by
            have hg := HGW1.out
            have h7 := H7a.out
            have hu := HP1.out.2.2.2.1.up
            refine (Disk.flush_cx h7.1.cx hu.1 (by omega) (by omega)).mono ?_
            rintro e w' ⟨g1, fp', g2, g3⟩
            obtain ⟨fp'', v1, v2, _⟩ := h7.1.fol g2 g3 rfl
            have hmf := h7.2.1.fw (v2.wider (fun _ _ h => h.elim))
            exact ⟨g1, fp'', v1, hmf.1, h7.2.2.1.same hmf.2 v2.size, (hmf.2 S6 h7.2.2.2.2).trans h7.2.2.2.1⟩⟩
          go_upto_region 24 with (go_at_call 12; refine HFL.out.mono ?_; rintro e x8 ⟨rfl, fp8, g1, g2, g3, g4⟩; have H8 : Box (VC x1 x8 V D fp8 ⟨K, n, zr, nx1, 1099511627776⟩ (Disk.flOk d1) sa sc ∧ Mn M2 x1 x8 V fp8 ∧ Nw x8 M2 g A1 F1 ∧ x8.heap[S6]? = some (.cells RA 36 (0, 0))) := ⟨g1, g2, g3, g4⟩; clear g1 g2 g3 g4)
          clear HFL H7a
          obtain ⟨d2, hd2⟩ : ∃ d, Disk.flOk d1 = d := ⟨_, rfl⟩
          have HD2 : Box (Good K n d2 F1 R1 ∧ d2.uw = [] ∧ d2.ops.length ≤ 20001 ∧ (0 ≤ d2.left ∧ d2.left ≤ 9223372036854775807) ∧ d2.n = 80) := ⟨by
            have hg := HGW1.out
            rw [← hd2]
            refine ⟨good_lat HP1.out.2.2.2.1 HP1.out.2.2.2.1.up (fun q => Disk.lat_fl d1 q), rfl, ?_, hg.2.2.1, hg.2.2.2⟩
            show (d1.ops ++ [(3, 0)]).length ≤ 20001
            simp; omega⟩
          rw [hd2] at H8
          clear hd2
          have HR8 : Box (x8.rangeAt S6 0 (rc R1)) := ⟨fun i v hv => by
            rw [cell_of_row _ _ _ _ _ _ H8.out.2.2.2, Nat.zero_add, ← HRAI.out.2.2.2.2]
            simpa using hv⟩
          have HAD : Box (Calls Tryz.prog 13 #[.pointer (some ⟨V, 0, none⟩), .agg RA, .int .u64 1099511627776] x8 fun e w' => e = .returned (.tuple #[]) ∧ VC x1 w' V D fp8 ⟨K, n, R1, nx1, 1099511627776⟩ d2 sa sc ∧ Mn M2 x1 w' V fp8 ∧ Nw w' M2 g A1 F1) := ⟨by
            have h8 := H8.out
            have := adopt_v h8.1 R1 HP1.out.2.2.1 1099511627776 ⟨by decide, by decide⟩
            rw [HRA.out] at this
            refine this.mono ?_
            rintro e w' ⟨g1, g2, g3⟩
            have hmf := h8.2.1.fw g3
            exact ⟨g1, g2, hmf.1, h8.2.2.1.same hmf.2 g3.size⟩⟩
          go_upto_region 25 with (first
            | (refine atLoad 36 ?_; refine wpList_ldMid rfl 36 _ _ rfl Tryz.underlying36 rfl S6 0 rfl (rc R1) HRAI.out.2.2.2.1 HR8.out ?_; rw [HRAI.out.2.2.2.2])
            | (go_at_call 13; refine HAD.out.mono ?_; rintro e x9 ⟨rfl, g1, g2, g3⟩; have H9 : Box (VC x1 x9 V D fp8 ⟨K, n, R1, nx1, 1099511627776⟩ d2 sa sc ∧ Mn M2 x1 x9 V fp8 ∧ Nw x9 M2 g A1 F1) := ⟨g1, g2, g3⟩; clear g1 g2 g3))
          clear HAD HR8 H8
          --F
          have HIM2 : Box (Calls Tryz.prog 10 #[.slice b nb capb, .bool false] x9 fun e w' => ∃ xb xd Z, e = .returned (.slice xb nb xd) ∧ Md n x9.heap.size x9 w' (.slice xb nb xd) nb 0 Z) := ⟨by
            have hx := HX.out x9 (below_to H1.out H9.out.1.cx.bel)
            have hN := HN.out
            have := Rec.images_any b capb MB false x9 hx.2.2.2.2.1 (by omega)
            rw [hN.2] at this
            refine this.mono ?_
            rintro e w' ⟨v, Z, rfl, h⟩
            have hl : Z.length = nb := h.len.trans (by omega)
            have hr := h.im.row
            rw [hl] at hr
            obtain ⟨xb, xd, rfl⟩ := Rec.own_form2 hr
            exact ⟨xb, xd, Z, rfl, h.im, hl, fun m hm => img_bl h m hm, fun i hi hk => absurd hk (by omega), h.bel⟩⟩
          go_upto_region 27 with (go_at_call 10; refine HIM2.out.mono ?_; rintro e x10 ⟨xb, xd, Z0, rfl, hmd⟩; have H10 : Box (Md n x9.heap.size x9 x10 (.slice xb nb xd) nb 0 Z0) := ⟨hmd⟩; clear hmd)
          clear HIM2
          go_loopw [24] (fun i wr => ∃ (k : Nat) (Y : List Rec.Im), k ≤ nb ∧ i = .int .i64 (k : Int) ∧ Box (Md n x9.heap.size x9 wr (.slice xb nb xd) nb k Y)) (fun i _ => nb - (intOf i).toNat)
          case atStart => exact ⟨0, Z0, Nat.zero_le _, rfl, H10⟩
          case round =>
            clear H10
            obtain ⟨k, Z, hk, rfl, HG⟩ := hrel
            by_cases hlt : k < nb
            · have hlt1 : decide ((k : Int) < (nb : Int)) = true := by simp; omega
              have hkY : k < Z.length := by rw [HG.out.len]; exact hlt
              obtain ⟨gJ, rfl, hg1, hg2⟩ := oimgs_form HG.out.im (by omega)
              have HML : Box (k < nb) := ⟨hlt⟩
              obtain ⟨hc1, hc2⟩ := oimgs_cell HG.out.im k hkY
              obtain ⟨bk, hbk⟩ : ∃ b, Z[k].blk = b := ⟨_, rfl⟩
              have hb0 : 0 ≤ bk := by rw [← hbk]; exact ((HG.out.im.byt Z[k] (List.getElem_mem hkY)).num).1
              obtain ⟨z, hz⟩ : ∃ z, bk % (n : Int) = z := ⟨_, rfl⟩
              have HST : Box (Md n x9.heap.size x9 (wr.setCell ⟨gJ, k * 2, none⟩ (.int .u64 z)) (.slice (some ⟨gJ, 0, none⟩) nb xd) nb (k + 1) (Z.set k { Z[k] with blk := z })) := ⟨HG.out.step hkY hg1 (by omega) (by omega) z (by rw [hbk]; exact hz)⟩
              rw [hbk] at hc1
              have hz2 : bk.tmod (n : Int) = z := by rw [← hz]; exact Int.tmod_eq_emod_of_nonneg hb0
              have hw4 : IntKind.i64.wrap ((k : Int) + 1) = ((k + 1 : Nat) : Int) := by rw [IntKind.wrap_i64]; omega
              have hz5 : bk % (n : Int) = z := hz
              generalize Z.set k { Z[k] with blk := z } = Y2 at HST
              clear HG hkY hbk hg1 hg2 hb0 hz
              go_wp2_with (refine Rec.atIdx 24 ?_; refine wpList_run rfl _ _ (Rec.exec_idxT 24 41 Tryz.underlying24 2 Rec.infoIm _ _ rfl gJ 0 nb xd k rfl rfl HML.out) ?_)
              go_roundw
              case rel => exact ⟨k + 1, Y2, HML.out, by go_num, HST⟩
              case measure => simp [intOf]; omega
            · have hkn : k = nb := by omega
              have hlt1 : decide ((k : Int) < (nb : Int)) = false := by simp; omega
              have HMD : Box (Md n x9.heap.size x9 wr (.slice xb nb xd) nb nb Z) := ⟨hkn ▸ HG.out⟩
              clear HG hkn hk
              obtain ⟨y3, hy3⟩ : ∃ y, y = wr := ⟨_, rfl⟩
              rw [← hy3] at HMD ⊢
              clear hy3
              --G
              obtain ⟨F2, hF2⟩ : ∃ F, newF F1 (lastB (LM (Z.map toIm))) = F := ⟨_, rfl⟩
              have HF2 : Box (nF F1 Z nb = F2) := ⟨by
                rw [← hF2, LM_to, nF, List.take_of_length_le (by rw [HMD.out.len]; exact Nat.le_refl _)]⟩
              have HU2 : Box (∃ d' nx' R, updM (Yk K) Xd n (topL n) 1099511627776 (LM (Z.map toIm)) d2 nx1 R1 = (d', nx', 0, R) ∧ OkR R ∧ Good K n d' F2 R ∧ Good K n d' F1 R1 ∧ (∀ d'' keep, Sm d' d'' → Good K n (Disk.crOk d'' keep) F1 R1) ∧ Gw d2 20000 d') := ⟨by
                have hQ := HQ.out
                have hP := HP1.out
                obtain ⟨d', nx', R, e, h1, h2, h3, h4, h5, h6⟩ := good_any HD2.out.1 (by omega) (by omega) (LM (Z.map toIm)) (fun x hx => img_ok HMD.out x hx) nx1 1099511627776 hP.1 (by omega) (by omega) hP.2.2.1
                have hgw := gw_updM ⟨K, n, R1, nx1, 1099511627776⟩ H9.out.1.ok (Z.map toIm) (fun m hm => by
                  obtain ⟨y, hy, rfl⟩ := List.mem_map.1 hm
                  exact (HMD.out.im.byt y hy).byi.1.1) (fun m hm => by
                  obtain ⟨y, hy, rfl⟩ := List.mem_map.1 hm
                  exact (HMD.out.im.byt y hy).num.1) d2
                rw [show updM (Yk (⟨K, n, R1, nx1, 1099511627776⟩ : Vt).key) Xd (⟨K, n, R1, nx1, 1099511627776⟩ : Vt).n (topL (⟨K, n, R1, nx1, 1099511627776⟩ : Vt).n) (⟨K, n, R1, nx1, 1099511627776⟩ : Vt).lim (LM (Z.map toIm)) d2 (⟨K, n, R1, nx1, 1099511627776⟩ : Vt).nx (⟨K, n, R1, nx1, 1099511627776⟩ : Vt).top = (d', nx', 0, R) from e] at hgw
                rw [hF2] at h4
                exact ⟨d', nx', R, e, h3, h4, h5, h6 HD2.out.2.1, hgw⟩⟩
              clear hF2
              obtain ⟨d3, nx2, R2, hum2, hokR2, hgd2, hgd3, hcr2, hgw2⟩ := HU2.out
              have HP2 : Box (OkR R2 ∧ Good K n d3 F2 R2 ∧ Good K n d3 F1 R1 ∧ (∀ d'' keep, Sm d3 d'' → Good K n (Disk.crOk d'' keep) F1 R1) ∧ d3.ops.length ≤ 40001 ∧ d3.uw.length ≤ 20000) := ⟨hokR2, hgd2, hgd3, hcr2, by have := hgw2.ops; have := HD2.out.2.2.1; omega, by have := hgw2.uw; have h := HD2.out.2.1; rw [h] at this; simpa using this⟩
              obtain ⟨RB, HRB⟩ : ∃ A, Box (ra R2 = A) := ⟨_, ⟨rfl⟩⟩
              have HRBI : Box ((Tryz.prog.info? 36).map (·.size) = some RB.size ∧ (ra zr).size = RB.size ∧ RB.all (·.oneCell') = true ∧ (Tryz.prog.info? 36).map (·.size) = some (rc R2).length ∧ (rc R2).toArray = RB) := ⟨by rw [← HRB.out, size_ra HP2.out.1]; exact infoR, by rw [← HRB.out, size_ra HP2.out.1, size_ra okR_zr], by rw [← HRB.out]; exact all_ra R2, by rw [rc_len HP2.out.1]; exact infoR, by rw [← HRB.out]; rfl⟩
              obtain ⟨M3, hM3⟩ : ∃ M : Nat → Prop, (fun c => M2 c ∨ x9.heap.size ≤ c ∧ c < y3.heap.size) = M := ⟨_, rfl⟩
              have HM3 : Box (Mn M3 x1 y3 V fp8 ∧ Nw y3 M3 g A1 F1 ∧ ∀ c, x9.heap.size ≤ c → c < y3.heap.size → M3 c) := ⟨by
                have h9 := H9.out
                have hb := HMD.out.bel
                rw [← hM3]
                exact ⟨h9.2.1.below hb h9.1.cx.hi h9.1.lt h9.1.cx.bel.size, (h9.2.2.same (fun c hc => hb.block c (h9.2.1.lt c hc)) hb.size).more (fun c hc => .inl hc), fun c h1 h2 => .inr ⟨h1, h2⟩⟩⟩
              clear hM3
              have HUP2 : Box (Calls Tryz.prog 11 #[.pointer (some ⟨V, 0, none⟩), .slice xb nb xd] y3 fun e w' => ∃ fp', e = .returned (.tuple #[.agg RB, .int .i64 0]) ∧ VC x1 w' V D fp' ⟨K, n, R1, nx2, 1099511627776⟩ d3 sa sc ∧ Mn M3 x1 w' V fp' ∧ Nw w' M3 g A1 F1 ∧ (∀ c, x9.heap.size ≤ c → c < y3.heap.size → w'.heap[c]? = y3.heap[c]?)) := ⟨by
                have hI : Imgs y3 xb (Z.map toIm) := imgs_to (Rec.OImgs.imgs (c := xd) (by rw [HMD.out.len]; exact HMD.out.im))
                have hV := H9.out.1.lt
                have hbk : ∀ m ∈ Z.map toIm, ∀ ad, m.ba = some ad → ¬ fp8 ad.block ∧ ad.block ≠ V := fun m hm ad e => by
                  obtain ⟨y, hy, rfl⟩ := List.mem_map.1 hm
                  have h := oim_blk (HMD.out.im.byt y hy) ad e
                  exact ⟨fun hf => by have := H9.out.1.cx.hi _ hf; omega, by omega⟩
                have hln : (Z.map toIm).length = nb := by rw [List.length_map]; exact HMD.out.len
                have hd := HD2.out
                have := update_v (H9.out.1.below HMD.out.bel) xb xd (Z.map toIm) hI (by rw [hln]; omega) hbk HP1.out.1 hd.2.2.2.1 (by omega) (by rw [hd.2.1]; decide)
                rw [show updM (Yk (⟨K, n, R1, nx1, 1099511627776⟩ : Vt).key) Xd (⟨K, n, R1, nx1, 1099511627776⟩ : Vt).n (topL (⟨K, n, R1, nx1, 1099511627776⟩ : Vt).n) (⟨K, n, R1, nx1, 1099511627776⟩ : Vt).lim (LM (Z.map toIm)) d2 (⟨K, n, R1, nx1, 1099511627776⟩ : Vt).nx (⟨K, n, R1, nx1, 1099511627776⟩ : Vt).top = (d3, nx2, 0, R2) from hum2, hln] at this
                refine this.mono ?_
                rintro e w' ⟨fp', g1, g2, g3⟩
                have hmf := HM3.out.1.fw g3
                exact ⟨fp', by rw [g1]; show Ending.returned (.tuple #[.agg (ra R2), .int .i64 0]) = _; rw [HRB.out], g2, hmf.1, HM3.out.2.1.same hmf.2 g3.size, fun c h1 h2 => hmf.2 c (HM3.out.2.2 c h1 h2)⟩⟩
              clear hum2 hokR2 hgd2 hgd3 hcr2 hgw2 HU2
              go_upto_region 31 with (first
                | (go_at_call 11; refine HUP2.out.mono ?_; rintro e x11 ⟨fp11, rfl, g1, g2, g3, g4⟩; have H11 : Box (VC x1 x11 V D fp11 ⟨K, n, R1, nx2, 1099511627776⟩ d3 sa sc ∧ Mn M3 x1 x11 V fp11 ∧ Nw x11 M3 g A1 F1 ∧ (∀ c, x9.heap.size ≤ c → c < y3.heap.size → x11.heap[c]? = y3.heap[c]?)) := ⟨g1, g2, g3, g4⟩; clear g1 g2 g3 g4)
                | (refine atAlloc _ ?_; refine wpList_run rfl _ _ (exec_alloc 36 rfl _ zeroR) ?_)
                | (refine atStore _ ?_; refine wpList_newRow x11 (ra zr) RB HRBI.out.1 HRBI.out.2.1 HRBI.out.2.2.1 rfl _ _ rfl rfl rfl rfl ?_; intro x12 h12 hb12; have H12 : Box (x12.heap[x11.heap.size]? = some (.cells RB 36 (0, 0)) ∧ Below x11.heap.size x11 x12) := ⟨h12, hb12⟩; clear h12 hb12))
              clear HUP2 hlt1 hlt
              obtain ⟨S11, hS11⟩ : ∃ S, x11.heap.size = S := ⟨_, rfl⟩
              (try simp only [hS11])
              obtain ⟨M4, hM4⟩ : ∃ M : Nat → Prop, (fun c => M3 c ∨ x11.heap.size ≤ c ∧ c < x12.heap.size) = M := ⟨_, rfl⟩
              have H12a : Box (VC x1 x12 V D fp11 ⟨K, n, R1, nx2, 1099511627776⟩ d3 sa sc ∧ Mn M4 x1 x12 V fp11 ∧ Nw x12 M4 g A1 F1 ∧ x12.heap[S11]? = some (.cells RB 36 (0, 0)) ∧ M4 S11 ∧ (∀ c, x9.heap.size ≤ c → c < y3.heap.size → x12.heap[c]? = y3.heap[c]?) ∧ (∀ c, x9.heap.size ≤ c → c < y3.heap.size → M4 c)) := ⟨by
                have h6 := H11.out
                have h7 := H12.out
                have hl := (Array.getElem?_eq_some_iff.1 h7.1).1
                refine ⟨h6.1.below h7.2, by rw [← hM4]; exact h6.2.1.below h7.2 h6.1.cx.hi h6.1.lt h6.1.cx.bel.size, ?_, by rw [← hS11]; exact h7.1, by rw [← hM4]; exact .inr ⟨by omega, by omega⟩, fun c h1 h2 => (h7.2.block c (h6.2.1.lt c (HM3.out.2.2 c h1 h2))).trans (h6.2.2.2 c h1 h2), fun c h1 h2 => by rw [← hM4]; exact .inl (HM3.out.2.2 c h1 h2)⟩
                rw [← hM4]
                exact (h6.2.2.1.same (fun c hc => h7.2.block c (h6.2.1.lt c hc)) h7.2.size).more (fun c hc => .inl hc)⟩
              clear hS11 H11 H12 hM4 HM3
              --H
              have HR1 : Box (Calls Tryz.prog 14 #[.pointer (some ⟨V, 0, none⟩), .slice (some ⟨g, 0, none⟩) 20 20, .int .i64 (n : Int)] x12 fun e w' => e = .returned (.bool true) ∧ ∃ fp' d', VC x1 w' V D fp' ⟨K, n, R1, nx2, 1099511627776⟩ d' sa sc ∧ Sm d3 d' ∧ d'.ops.length ≤ 50000 ∧ Mn M4 x1 w' V fp' ∧ Nw w' M4 g A1 F1 ∧ w'.heap[S11]? = some (.cells RB 36 (0, 0)) ∧ (∀ c, x9.heap.size ≤ c → c < y3.heap.size → w'.heap[c]? = y3.heap[c]?) ∧ Up d') := ⟨by
                have h := H12a.out
                have hP := HP2.out
                refine (reads_v h.1 F1 hP.2.2.1 HQ.out.2.1 M4 h.2.1 g A1 F1 h.2.2.1 (fun _ _ => rfl) (by omega) (by omega)).mono ?_
                rintro e w' ⟨rfl, fp', d', hr⟩
                have hmf := h.2.1.fw (hr.fw.wider (fun _ _ h => h.elim))
                refine ⟨rfl, fp', d', hr.vc, hr.sm, by have := hr.ops; omega, hmf.1, h.2.2.1.same hmf.2 hr.fw.size, (hmf.2 S11 h.2.2.2.2.1).trans h.2.2.2.1, ?_, hr.good.up⟩
                exact fun c h1 h2 => (hmf.2 c (h.2.2.2.2.2.2 c h1 h2)).trans (h.2.2.2.2.2.1 c h1 h2)⟩
              have HMI : Box (∀ c, x9.heap.size ≤ c → c < y3.heap.size → M4 c) := ⟨H12a.out.2.2.2.2.2.2⟩
              go_upto_region 33 with (go_at_call 14; refine HR1.out.mono ?_; rintro e x13 ⟨rfl, fp13, d4, g1, g2, g3, g4, g5, g6, g7, g8⟩; have H13 : Box (VC x1 x13 V D fp13 ⟨K, n, R1, nx2, 1099511627776⟩ d4 sa sc ∧ Sm d3 d4 ∧ d4.ops.length ≤ 50000 ∧ Mn M4 x1 x13 V fp13 ∧ Nw x13 M4 g A1 F1 ∧ x13.heap[S11]? = some (.cells RB 36 (0, 0)) ∧ (∀ c, x9.heap.size ≤ c → c < y3.heap.size → x13.heap[c]? = y3.heap[c]?) ∧ Up d4) := ⟨g1, g2, g3, g4, g5, g6, g7, g8⟩; clear g1 g2 g3 g4 g5 g6 g7 g8)
              clear HR1
              by_cases hk0 : 0 < kl
              · have hdk : decide ((0 : Int) < (kl : Int)) = true := by simp; omega
                have HCR : Box (Calls Tryz.prog 15 #[.pointer (some ⟨D, 0, none⟩), .slice ka kl kc] x13 fun e w' => e = .returned (.tuple #[]) ∧ ∃ fp', VC x1 w' V D fp' ⟨K, n, R1, nx2, 1099511627776⟩ (Disk.crOk d4 KB) sa sc ∧ Mn M4 x1 w' V fp' ∧ Nw w' M4 g A1 F1) := ⟨by
                  have h := H13.out
                  have hx := (HX.out x13 (below_to H1.out h.1.cx.bel)).2.2.2.2.2.2
                  have hw1x1 := H1.out.size
                  refine (Disk.crash_cx h.1.cx ka kl kc KB hx (fun ad e h0 hf => by have := h.1.cx.lo _ hf; have := HKB.out.1 ad e h0; omega) (by rw [h.2.1.1]; have := HP2.out; omega) HKB.out.2).mono ?_
                  rintro e w' ⟨g1, fp', g2, g3⟩
                  obtain ⟨fp'', v1, v2, _⟩ := h.1.fol g2 g3 rfl
                  have hmf := h.2.2.2.1.fw (v2.wider (fun _ _ h => h.elim))
                  exact ⟨g1, fp'', v1, hmf.1, h.2.2.2.2.1.same hmf.2 v2.size⟩⟩
                go_upto_region 35 with (go_at_call 15; refine HCR.out.mono ?_; rintro e x14 ⟨rfl, fp14, g1, g2, g3⟩; have H14 : Box (VC x1 x14 V D fp14 ⟨K, n, R1, nx2, 1099511627776⟩ (Disk.crOk d4 KB) sa sc ∧ Mn M4 x1 x14 V fp14 ∧ Nw x14 M4 g A1 F1) := ⟨g1, g2, g3⟩; clear g1 g2 g3)
                have HR2 : Box (Calls Tryz.prog 14 #[.pointer (some ⟨V, 0, none⟩), .slice (some ⟨g, 0, none⟩) 20 20, .int .i64 (n : Int)] x14 fun e w' => e = .returned (.bool true) ∧ Below w.heap.size w w') := ⟨by
                  have h := H14.out
                  have h13 := H13.out
                  refine (reads_v h.1 F1 (HP2.out.2.2.2.1 d4 KB h13.2.1) HQ.out.2.1 M4 h.2.1 g A1 F1 h.2.2 (fun _ _ => rfl) (by show d4.ops.length < 900000; omega) (by show (0 : Nat) < 1000000; omega)).mono ?_
                  rintro e w' ⟨rfl, fp', d', hr⟩
                  exact ⟨rfl, (HX.out w' (below_to H1.out hr.vc.cx.bel)).2.2.2.2.2.1⟩⟩
                go_wp2_with (go_at_call 14; refine HR2.out.mono ?_; rintro e x15 ⟨rfl, hb⟩; have HF : Box (Below w.heap.size w x15) := ⟨hb⟩; clear hb)
                go_ret
                exact ⟨rfl, HF.out⟩
              · have hdk : decide ((0 : Int) < (kl : Int)) = false := by simp; omega
                --I
                have HR13 : Box (x13.rangeAt S11 0 (rc R2)) := ⟨fun i v hv => by
                  rw [cell_of_row _ _ _ _ _ _ H13.out.2.2.2.2.2.1, Nat.zero_add, ← HRBI.out.2.2.2.2]
                  simpa using hv⟩
                have HAD2 : Box (Calls Tryz.prog 13 #[.pointer (some ⟨V, 0, none⟩), .agg RB, .int .u64 1099511627776] x13 fun e w' => e = .returned (.tuple #[]) ∧ VC x1 w' V D fp13 ⟨K, n, R2, nx2, 1099511627776⟩ d4 sa sc ∧ Mn M4 x1 w' V fp13 ∧ Nw w' M4 g A1 (nF F1 Z 0) ∧ (∀ c, x9.heap.size ≤ c → c < y3.heap.size → w'.heap[c]? = y3.heap[c]?)) := ⟨by
                  have h8 := H13.out
                  have := adopt_v h8.1 R2 HP2.out.1 1099511627776 ⟨by decide, by decide⟩
                  rw [HRB.out] at this
                  refine this.mono ?_
                  rintro e w' ⟨g1, g2, g3⟩
                  have hmf := h8.2.2.2.1.fw g3
                  refine ⟨g1, g2, hmf.1, by rw [nF_zero]; exact h8.2.2.2.2.1.same hmf.2 g3.size, ?_⟩
                  exact fun c h1 h2 => (hmf.2 c (HMI.out c h1 h2)).trans (h8.2.2.2.2.2.2.1 c h1 h2)⟩
                go_upto_region 38 with (first
                  | (refine atLoad 36 ?_; refine wpList_ldMid rfl 36 _ _ rfl Tryz.underlying36 rfl S11 0 rfl (rc R2) HRBI.out.2.2.2.1 HR13.out ?_; rw [HRBI.out.2.2.2.2])
                  | (go_at_call 13; refine HAD2.out.mono ?_; rintro e x14 ⟨rfl, g1, g2, g3, g4⟩; have H14 : Box (VC x1 x14 V D fp13 ⟨K, n, R2, nx2, 1099511627776⟩ d4 sa sc ∧ Mn M4 x1 x14 V fp13 ∧ Nw x14 M4 g A1 (nF F1 Z 0) ∧ (∀ c, x9.heap.size ≤ c → c < y3.heap.size → x14.heap[c]? = y3.heap[c]?)) := ⟨g1, g2, g3, g4⟩; clear g1 g2 g3 g4))
                clear HAD2 HR13
                --J
                have HG9 : Box (g < x9.heap.size ∧ (∀ ad, sa = some ad → ad.block ≠ g) ∧ Z.length = nb) := ⟨(Array.getElem?_eq_some_iff.1 H9.out.2.2.row).1, fun ad e h => by
                  have := ints_lt H3.out.ints (wid_pos _) ad e
                  have := HGS.out
                  omega, HMD.out.len⟩
                have H14k : Box (Kr x1 x9 y3 x14 V D fp13 ⟨K, n, R2, nx2, 1099511627776⟩ d4 sa sc M4 g A1 (nF F1 Z 0)) := ⟨⟨H14.out.1, H14.out.2.1, H14.out.2.2.1, H14.out.2.2.2⟩⟩
                clear H14
                go_loopw [27] (fun i wr => ∃ (k : Nat) (A : List (Option Addr × Nat)), k ≤ nb ∧ i = .int .i64 (k : Int) ∧ Box (Kr x1 x9 y3 wr V D fp13 ⟨K, n, R2, nx2, 1099511627776⟩ d4 sa sc M4 g A (nF F1 Z k))) (fun i _ => nb - (intOf i).toNat)
                case atStart => exact ⟨0, A1, Nat.zero_le _, rfl, H14k⟩
                case round =>
                  clear H14k
                  obtain ⟨k, A3, hk, rfl, HG⟩ := hrel
                  by_cases hlt : k < nb
                  · have hlt1 : decide ((k : Int) < (nb : Int)) = true := by simp; omega
                    have hkZ : k < Z.length := by rw [HG9.out.2.2]; exact hlt
                    obtain ⟨gJ, rfl, hg1, hg2⟩ := oimgs_form HMD.out.im (by omega)
                    have HML : Box (k < nb) := ⟨hlt⟩
                    obtain ⟨⟨mb, ba, bl, bc, bs⟩, hm⟩ : ∃ m, Z[k] = m := ⟨_, rfl⟩
                    have hbl : bl = 160 := by
                      have := HMD.out.bl Z[k] (List.getElem_mem hkZ)
                      rw [hm] at this
                      exact this
                    subst hbl
                    obtain ⟨z, hz⟩ : ∃ z : Nat, mb = (z : Int) := by
                      have := (HMD.out.im.byt Z[k] (List.getElem_mem hkZ)).num.1
                      rw [hm] at this
                      exact ⟨mb.toNat, by simp only at this; omega⟩
                    subst hz
                    have HZ : Box (z < n ∧ z < 20) := ⟨by
                      have := HMD.out.sm k hkZ hlt
                      rw [hm] at this
                      simp only at this
                      omega⟩
                    have HGT : Box (∃ h : k < Z.length, Z[k] = ⟨(z : Int), ba, 160, bc, bs⟩) := ⟨hkZ, hm⟩
                    have HCG : Box (∀ x : World, (∀ c, c ≠ g → x.heap[c]? = wr.heap[c]?) → x.cell? ⟨gJ, 0 + k * 2, none⟩ = some (.int .u64 (z : Int)) ∧ x.cell? ⟨gJ, 0 + k * 2 + 1, none⟩ = some (.slice ba 160 bc)) := ⟨fun x hx => by
                      obtain ⟨h1, h2⟩ := HGT.out
                      have hI : Rec.Imgs wr (some ⟨gJ, 0, none⟩) Z := Rec.OImgs.imgs (c := xd) (by rw [HG9.out.2.2]; exact oimgs_keep HMD.out.im (fun i h1 h2 => HG.out.sm i h1 h2))
                      obtain ⟨b', o', e', hlt', hr'⟩ := hI.tb (by omega)
                      cases e'
                      have hr := hr' k h1
                      rw [h2] at hr
                      have hne : gJ ≠ g := by have := HG9.out.1; omega
                      exact ⟨(World.cell?_of_block (hx gJ hne)).trans (hr 0 _ rfl), (World.cell?_of_block (hx gJ hne)).trans (hr 1 _ rfl)⟩⟩
                    have hw4 : IntKind.i64.wrap ((k : Int) + 1) = ((k + 1 : Nat) : Int) := by rw [IntKind.wrap_i64]; omega
                    clear hkZ hm hg1 hg2
                    go_upto_region 40 with fail
                    refine Disk.begin_keep (S := fun x => ∀ c, c ≠ g → x.heap[c]? = wr.heap[c]?) (by kernel_rfl) (fun wd hwd => ?_)
                    have hbd : Below wr.heap.size wr wd := by rw [hwd]; exact (Below.refl _ _).drew
                    have hS : ∀ c, c ≠ g → wd.heap[c]? = wr.heap[c]? := fun c _ => by rw [hwd]; rfl
                    have HSD : Box (Kr x1 x9 y3 wd V D fp13 ⟨K, n, R2, nx2, 1099511627776⟩ d4 sa sc M4 g A3 (nF F1 Z k)) := ⟨HG.out.below hbd HMI.out⟩
                    have hrg := HSD.out.nw.row
                    clear hwd hbd
                    refine take_s (i := 0) (v := ?_) rfl (by kernel_rfl) (by kernel_rfl) (by kernel_rfl) (fun _ _ _ h => h) (by rfl) ?_ hS ?_
                    rotate_left
                    · intro w' hLat; clear hLat; go_simp <;> with_reducible rfl
                    try simp only [Act.put, List.setIfInBounds_toArray, List.set_cons_zero, List.set_cons_succ, List.getElem_toArray, List.getElem_cons_zero]
                    refine take_s (i := 1) (v := ?_) rfl (by kernel_rfl) (by kernel_rfl) (by kernel_rfl) (fun _ _ _ h => h) (by rfl) ?_ hS ?_
                    rotate_left
                    · intro w' hLat; clear hLat; go_simp <;> with_reducible rfl
                    try simp only [Act.put, List.setIfInBounds_toArray, List.set_cons_zero, List.set_cons_succ, List.getElem_toArray, List.getElem_cons_zero, List.getElem_cons_succ]
                    refine take_s (i := 2) (v := ?_) rfl (by kernel_rfl) (by kernel_rfl) (by kernel_rfl) (fun _ _ _ h => h) (by rfl) ?_ hS ?_
                    rotate_left
                    · intro w' hLat; clear hLat; go_simp <;> with_reducible rfl
                    try simp only [Act.put, List.setIfInBounds_toArray, List.set_cons_zero, List.set_cons_succ, List.getElem_toArray, List.getElem_cons_zero, List.getElem_cons_succ]
                    refine take_s (i := 3) (v := .pointer (some ⟨gJ, 0 + k * 2, none⟩)) rfl (by kernel_rfl) (by kernel_rfl) (by kernel_rfl) (fun _ _ _ h => h) (by rfl) (fun w' hLat => exec_idxIm _ _ rfl gJ 0 nb xd k rfl rfl HML.out) hS ?_
                    try simp only [Act.put, List.setIfInBounds_toArray, List.set_cons_zero, List.set_cons_succ, List.getElem_toArray, List.getElem_cons_zero, List.getElem_cons_succ]
                    refine take_s (i := 4) (v := ?_) rfl (by kernel_rfl) (by kernel_rfl) (by kernel_rfl) (fun _ _ _ h => h) (by rfl) ?_ hS ?_
                    rotate_left
                    · intro w' hLat; clear hLat; go_simp <;> with_reducible rfl
                    try simp only [Act.put, List.setIfInBounds_toArray, List.set_cons_zero, List.set_cons_succ, List.getElem_toArray, List.getElem_cons_zero, List.getElem_cons_succ]
                    refine take_s (i := 5) (v := .int .u64 (z : Int)) rfl (by kernel_rfl) (by kernel_rfl) (by kernel_rfl) (fun _ _ _ h => h) (by rfl) (fun w' hLat => Disk.exec_load1 34 _ _ rfl Tryz.underlying34 rfl _ rfl _ (by have h9 := (HCG.out w' hLat).1; simpa using h9)) hS ?_
                    try simp only [Act.put, List.setIfInBounds_toArray, List.set_cons_zero, List.set_cons_succ, List.getElem_toArray, List.getElem_cons_zero, List.getElem_cons_succ]
                    refine take_s (i := 6) (v := ?_) rfl (by kernel_rfl) (by kernel_rfl) (by kernel_rfl) (fun _ _ _ h => h) (by rfl) ?_ hS ?_
                    rotate_left
                    · intro w' hLat; clear hLat; go_simp <;> with_reducible rfl
                    try simp only [Act.put, List.setIfInBounds_toArray, List.set_cons_zero, List.set_cons_succ, List.getElem_toArray, List.getElem_cons_zero, List.getElem_cons_succ]
                    refine take_s (i := 7) (v := ?_) rfl (by kernel_rfl) (by kernel_rfl) (by kernel_rfl) (fun _ _ _ h => h) (by rfl) ?_ hS ?_
                    rotate_left
                    · intro w' hLat; clear hLat; go_simp <;> with_reducible rfl
                    try simp only [Act.put, List.setIfInBounds_toArray, List.set_cons_zero, List.set_cons_succ, List.getElem_toArray, List.getElem_cons_zero, List.getElem_cons_succ]
                    refine take_s (i := 8) (v := .pointer (some ⟨gJ, 0 + k * 2, none⟩)) rfl (by kernel_rfl) (by kernel_rfl) (by kernel_rfl) (fun _ _ _ h => h) (by rfl) (fun w' hLat => exec_idxIm _ _ rfl gJ 0 nb xd k rfl rfl HML.out) hS ?_
                    try simp only [Act.put, List.setIfInBounds_toArray, List.set_cons_zero, List.set_cons_succ, List.getElem_toArray, List.getElem_cons_zero, List.getElem_cons_succ]
                    refine take_s (i := 9) (v := ?_) rfl (by kernel_rfl) (by kernel_rfl) (by kernel_rfl) (fun _ _ _ h => h) (by rfl) ?_ hS ?_
                    rotate_left
                    · intro w' hLat; clear hLat; go_simp <;> with_reducible rfl
                    try simp only [Act.put, List.setIfInBounds_toArray, List.set_cons_zero, List.set_cons_succ, List.getElem_toArray, List.getElem_cons_zero, List.getElem_cons_succ]
                    refine take_s (i := 10) (v := .slice ba 160 bc) rfl (by kernel_rfl) (by kernel_rfl) (by kernel_rfl) (fun _ _ _ h => h) (by rfl) (fun w' hLat => Disk.exec_load1 38 _ _ rfl Tryz.underlying38 rfl _ rfl _ (by have h9 := (HCG.out w' hLat).2; simpa using h9)) hS ?_
                    try simp only [Act.put, List.setIfInBounds_toArray, List.set_cons_zero, List.set_cons_succ, List.getElem_toArray, List.getElem_cons_zero, List.getElem_cons_succ]
                    refine take_s (i := 11) (v := .pointer (some ⟨g, 0 + z * 1, none⟩)) rfl (by kernel_rfl) (by kernel_rfl) (by kernel_rfl) (fun _ _ _ h => h) (by rfl) (fun w' hLat => exec_idxNwU _ _ rfl g 20 20 z rfl rfl HZ.out.2) hS ?_
                    try simp only [Act.put, List.setIfInBounds_toArray, List.set_cons_zero, List.set_cons_succ, List.getElem_toArray, List.getElem_cons_zero, List.getElem_cons_succ]
                    refine Disk.one_keep (i := 12) (by kernel_rfl) ?_
                    refine Disk.keep_step rfl (by rfl) ?_
                    refine Disk.wp_store_one 38 (.tmp 178) (.tmp 177) rfl (by kernel_rfl) (.slice ba 160 bc) rfl rfl rfl (D := g) (k := 0 + z * 1) rfl (by rw [cell_of_row _ _ _ _ _ _ hrg, nwc_get A3 (0 + z * 1) (by rw [HSD.out.nw.len]; have := HZ.out.2; omega)]; rfl) (frozen_of_row _ _ _ _ _ hrg) ?_
                    obtain ⟨y, hy⟩ : ∃ y, wd.setCell ⟨g, 0 + z * 1, none⟩ (.slice ba 160 bc) = y := ⟨_, rfl⟩
                    rw [hy]
                    have hSy : ∀ c, c ≠ g → y.heap[c]? = wr.heap[c]? := fun c hc => by rw [← hy, heap_setCell_other wd ⟨g, 0 + z * 1, none⟩ c _ hc]; exact hS c hc
                    refine ⟨hSy, ?_⟩
                    replace hS := hSy
                    clear hSy hrg
                    try simp only [Act.put, List.getElem_toArray, List.getElem_cons_zero, List.getElem_cons_succ]
                    refine wpAnyH_done (by kernel_rfl) ?_ _
                    have HE : Box (Kr x1 x9 y3 y V D fp13 ⟨K, n, R2, nx2, 1099511627776⟩ d4 sa sc M4 g (A3.set z (ba, bc)) (nF F1 Z (k + 1))) := ⟨by
                      obtain ⟨h1, h2⟩ := HGT.out
                      have ho : Rec.OIm wd x9.heap.size Z[k] := (oimgs_keep HMD.out.im (fun i h1 h2 => HSD.out.sm i h1 h2)).byt Z[k] (List.getElem_mem h1)
                      have := HSD.out.set HG9.out.1 HG9.out.2.1 h1 (by rw [h2]) ho (fun ad e => by
                        have hb := oim_blk (HMD.out.im.byt Z[k] (List.getElem_mem h1)) ad e
                        exact HMI.out _ hb.1 hb.2) z (by rw [h2])
                      rw [h2] at this
                      rw [← hy]
                      simpa using this⟩
                    clear hS hy HSD HCG HGT HG
                    generalize A3.set z (ba, bc) = A4 at HE
                    go_wp2
                    go_roundw
                    case rel => exact ⟨k + 1, A4, HML.out, by go_num, HE⟩
                    case measure => simp [intOf]; omega
                  · have hkn : k = nb := by omega
                    have hlt1 : decide ((k : Int) < (nb : Int)) = false := by simp; omega
                    have HR3 : Box (Calls Tryz.prog 14 #[.pointer (some ⟨V, 0, none⟩), .slice (some ⟨g, 0, none⟩) 20 20, .int .i64 (n : Int)] wr fun e w' => e = .returned (.bool true) ∧ Below w.heap.size w w') := ⟨by
                      have h := HG.out
                      rw [hkn, HF2.out] at h
                      have h13 := H13.out
                      have hG4 : Good K n d4 F2 R2 := good_lat HP2.out.2.1 h13.2.2.2.2.2.2.2 (fun q => by unfold Disk.lat; rw [h13.2.1.1, h13.2.1.2])
                      refine (reads_v h.vc F2 hG4 HQ.out.2.1 M4 h.mn g A3 F2 h.nw (fun _ _ => rfl) (by omega) (by rw [h13.2.1.1]; have := HP2.out; omega)).mono ?_
                      rintro e w' ⟨rfl, fp', d', hr⟩
                      exact ⟨rfl, (HX.out w' (below_to H1.out hr.vc.cx.bel)).2.2.2.2.2.1⟩⟩
                    clear HG hkn
                    go_wp2_with (go_at_call 14; refine HR3.out.mono ?_; rintro e x15 ⟨rfl, hb⟩; have HF : Box (Below w.heap.size w x15) := ⟨hb⟩; clear hb)
                    go_ret
                    exact ⟨rfl, HF.out⟩
end Go.Proofs.YthbbijaikcmaeaaGreatDoor
