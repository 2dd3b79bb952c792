/-
  VaultWorn: versions are used up one by one; an update that would need more than are left writes nothing; one that is none does nothing.
-/
import Derived.Test.YthbbijaikcmaeaaGreatDoorQ42
namespace Go.Proofs.YthbbijaikcmaeaaGreatDoor
set_option maxRecDepth 100000
set_option linter.unusedVariables false
set_option maxRecDepth 100000
open Go.RowKit Go.Shelf Plain Go.Proofs.YthbbijaikcmaeaaGreatDoor.Shap.Plain
attribute [local go_sem] Oper.semAt_some
def b8 (l : List Bool) : Array Value := (l.map Value.bool).toArray
def f8 : List Bool := List.replicate 8 false
theorem zero8 : (Tryz.prog.info? 59).map (·.zero) = some (some (.agg (b8 f8))) := by kernel_rfl
theorem b8_cell {w : World} {H : Nat} {l : List Bool} {t : TypeId} (h : w.heap[H]? = some (.cells (b8 l) t (0, 0))) (p : Nat) (hp : p < l.length) : w.cell? ⟨H, p, none⟩ = some (.bool (l.getD p false)) ∧ w.frozen? ⟨H, p, none⟩ = false :=
  ⟨by rw [cell_of_row _ _ _ _ _ _ h]; exact get_bools l p hp, frozen_of_row _ _ _ _ _ h⟩
theorem b8_set {w : World} {H : Nat} {l : List Bool} {t : TypeId} (h : w.heap[H]? = some (.cells (b8 l) t (0, 0))) (p : Nat) : (w.setCell ⟨H, p, none⟩ (.bool true)).heap[H]? = some (.cells (b8 (l.set p true)) t (0, 0)) := by
  rw [heap_setCell_same w H p _ t _ h]
  unfold b8
  rw [set_bools]
set_option maxHeartbeats 16000000 in
theorem vaultWorn_core (K : List Int) (hK : K.length = 32 ∧ Byt K) (nx : Nat) (hnx : nx < 65536) (lf : Nat) (hlf : lf < 256) (a : Option Addr) (cap : Nat) (M : List Rec.Im) (w : World) (hT : Dig.Tabs w) (hT2 : Seal.Tab w) (hM : Rec.Imgs w a M) :
    Calls Tryz.prog 5 #[.agg (u8s K), .int .u16 (nx : Int), .int .u8 (lf : Int), .slice a M.length cap] w fun e w' => e = .returned (.bool true) ∧ Below w.heap.size w w' := by
  obtain ⟨S, hS⟩ : ∃ S, w.heap.size = S := ⟨_, rfl⟩
  obtain ⟨AK, HAK⟩ : ∃ A, Box (u8s K = A) := ⟨_, ⟨rfl⟩⟩
  rw [HAK.out]
  obtain ⟨RZ, HRZ⟩ : ∃ A, Box (ra zr = A) := ⟨_, ⟨rfl⟩⟩
  obtain ⟨w1, hw1⟩ : ∃ w1, w.alloc (.cells AK 23) = w1 := ⟨_, rfl⟩
  have hb1 : Below w.heap.size w w1 := by rw [← hw1]; exact (Below.refl _ _).alloc (Nat.le_refl _) _
  have r1 : w1.heap[S]? = some (.cells AK 23 (0, 0)) := by rw [← hw1]; exact al_at hS
  have HAW : Box (Calls Tryz.prog 7 #[] w1 fun e w' => e = .returned (.bool true) ∧ Below w1.heap.size w1 w') := ⟨awake_v w1 (hT.below hb1) (hT2.below hb1)⟩
  have HX : Box (∀ x, Below w1.heap.size w1 x → x.rangeAt S 0 (K.map (Value.int .u8)) ∧ Dig.Tabs x ∧ Seal.Tab x ∧ Rec.Imgs x a M ∧ Below w.heap.size w x) := ⟨fun x hx => ⟨fun j q hq => by
    rw [cell_of_row _ _ _ _ _ _ ((hx.block S (Array.getElem?_eq_some_iff.1 r1).1).trans r1), Nat.zero_add, ← HAK.out]
    simpa [u8s] using hq, hT.below (below_to hb1 hx), hT2.below (below_to hb1 hx), hM.below (below_to hb1 hx), below_to hb1 hx⟩⟩
  have HKI : Box ((Tryz.prog.info? 23).map (·.size) = some (K.map (Value.int .u8)).length ∧ (K.map (Value.int .u8)).toArray = AK ∧ K.length = 32 ∧ Byt K) := ⟨by rw [List.length_map, hK.1]; exact infoSum, by rw [← HAK.out]; rfl, hK⟩
  have HS : Box (w.heap.size = S) := ⟨hS⟩
  obtain ⟨q, hq⟩ : ∃ q, lf % 12 = q := ⟨_, rfl⟩
  obtain ⟨fr, hfr⟩ : ∃ fr, nx + 1 = fr := ⟨_, rfl⟩
  obtain ⟨lm, hlm⟩ : ∃ lm, fr + q = lm := ⟨_, rfl⟩
  have HQ : Box (q < 12 ∧ 1 ≤ fr ∧ fr ≤ 65536 ∧ fr + q = lm ∧ lm ≤ 1000000) := ⟨by omega⟩
  have hwn : IntKind.u64.wrap (nx : Int) = (nx : Int) := by rw [IntKind.wrap_u64]; omega
  have hwf : IntKind.u64.wrap ((nx : Int) + 1) = (fr : Int) := by rw [IntKind.wrap_u64]; omega
  have hwq : (lf : Int) % 12 = (q : Int) := by omega
  have hwq2 : (lf : Int).tmod 12 = (q : Int) := by rw [← hq]; rfl
  have hwu : IntKind.u64.wrap (q : Int) = (q : Int) := by rw [IntKind.wrap_u64]; omega
  have hwl : IntKind.u64.wrap ((fr : Int) + (q : Int)) = (lm : Int) := by rw [IntKind.wrap_u64]; omega
  obtain ⟨d0, hd0⟩ : ∃ d0, Disk.dk0 20 = d0 := ⟨_, rfl⟩
  have HD0 : Box (Up d0 ∧ d0.n = 20 ∧ d0.ops.length = 0 ∧ d0.uw.length = 0 ∧ (0 ≤ d0.left ∧ d0.left ≤ 9223372036854775807)) := ⟨by rw [← hd0]; exact ⟨⟨rfl, rfl⟩, rfl, rfl, rfl, by decide, by decide⟩⟩
  have HRI : Box ((Tryz.prog.info? 36).map (·.size) = some RZ.size ∧ (ra zr).size = RZ.size ∧ RZ.all (·.oneCell') = true ∧ (Tryz.prog.info? 36).map (·.size) = some (rc zr).length ∧ (rc zr).toArray = RZ) := ⟨by rw [← HRZ.out, size_ra okR_zr]; exact infoR, by rw [HRZ.out], by rw [← HRZ.out]; exact all_ra zr, by rw [rc_len okR_zr]; exact infoR, by rw [← HRZ.out]; rfl⟩
  clear hT hT2 hM hK hb1 r1 hS hq hfr hlm hnx hlf
  go_enter Tryz.func5, Tryz.ntmps5
  go_upto_region 1 with fail
  (try simp only [HS.out])
  clear hw1
  go_upto_region 4 with (go_at_call 7; refine HAW.out.mono ?_; rintro e x1 ⟨rfl, hb⟩; have H1 : Box (Below w1.heap.size w1 x1) := ⟨hb⟩; clear hb)
  clear HAW
  by_cases hl6 : 6 < M.length
  · have hd6 : decide ((6 : Int) < (M.length : Int)) = true := by simp; omega
    go_wp2
    go_ret
    exact ⟨rfl, (HX.out x1 H1.out).2.2.2.2⟩
  have hd6 : decide ((6 : Int) < (M.length : Int)) = false := by simp; omega
  have HL6 : Box (M.length ≤ 6) := ⟨by omega⟩
  obtain ⟨n, hn⟩ : ∃ n, M.length = n := ⟨_, rfl⟩
  have HN : Box (M.length = n) := ⟨hn⟩
  rw [hn] at hd6 ⊢
  clear hn hl6
  go_upto_region 7 with fail
  clear hd6
  have HRN : Box (Calls Tryz.prog 18 #[.pointer none, .int .u64 0] x1 fun e w' => e = .returned (.tuple #[.slice none 0 0, .int .i64 1]) ∧ Below x1.heap.size x1 w') := ⟨read_nil x1 0⟩
  go_upto_region 8 with (go_at_call 18; refine HRN.out.mono ?_; rintro e x2 ⟨rfl, hb⟩; have H2 : Box (Below w1.heap.size w1 x2) := ⟨below_to H1.out hb⟩; clear hb)
  clear HRN H1
  have HUN : Box (Calls Tryz.prog 11 #[.pointer none, .slice none 0 0] x2 fun e w' => e = .returned (.tuple #[.agg RZ, .int .i64 1]) ∧ Below x2.heap.size x2 w') := ⟨by have := update_nil x2 none 0 0; rw [HRZ.out] at this; exact this⟩
  go_upto_region 9 with (first
    | (go_at_call 11; refine HUN.out.mono ?_; rintro e x3 ⟨rfl, hb⟩; have H3 : Box (Below w1.heap.size w1 x3) := ⟨below_to H2.out hb⟩; clear hb)
    | (refine atAlloc _ ?_; refine wpList_run rfl _ _ (exec_alloc 36 rfl _ zeroR) ?_)
    | (refine atStore _ ?_; refine wpList_newRow x3 (ra zr) RZ HRI.out.1 HRI.out.2.1 HRI.out.2.2.1 rfl _ _ rfl rfl rfl rfl ?_; intro x4 h4 hb4; have H4 : Box (Below w1.heap.size w1 x4) := ⟨below_to H3.out hb4⟩; clear h4 hb4))
  clear HUN H2 H3
  have HAN : Box (Calls Tryz.prog 13 #[.pointer none, .agg RZ, .int .u64 1] x4 fun e w' => e = .returned (.tuple #[]) ∧ Below x4.heap.size x4 w') := ⟨by have := adopt_nil x4 zr okR_zr 1; rw [HRZ.out] at this; exact this⟩
  go_upto_region 10 with (first
    | (refine atBuild 36 ?_; refine wpList_run rfl _ _ (exec_built 36 [] rfl [] rfl RZ (by rw [← HRZ.out]; exact built_R0)) ?_)
    | (go_at_call 13; refine HAN.out.mono ?_; rintro e x5 ⟨rfl, hb⟩; have H5 : Box (Below w1.heap.size w1 x5) := ⟨below_to H4.out hb⟩; clear hb))
  clear HAN H4
  have HTN : Box (Calls Tryz.prog 20 #[.pointer none] x5 fun e w' => e = .returned (.tuple #[.agg RZ, .int .u64 0]) ∧ Below x5.heap.size x5 w') := ⟨by have := top_nil x5; rw [HRZ.out] at this; exact this⟩
  go_upto_region 11 with (first
    | (go_at_call 20; refine HTN.out.mono ?_; rintro e x6 ⟨rfl, hb⟩; have H6 : Box (Below w1.heap.size w1 x6) := ⟨below_to H5.out hb⟩; clear hb)
    | (refine atAlloc _ ?_; refine wpList_run rfl _ _ (exec_alloc 36 rfl _ zeroR) ?_)
    | (refine atStore _ ?_; refine wpList_newRow x6 (ra zr) RZ HRI.out.1 HRI.out.2.1 HRI.out.2.2.1 rfl _ _ rfl rfl rfl rfl ?_; intro x7 h7 hb7; have H7 : Box (x7.heap[x6.heap.size]? = some (.cells RZ 36 (0, 0)) ∧ Below x6.heap.size x6 x7) := ⟨h7, hb7⟩; clear h7 hb7))
  clear HTN H5
  obtain ⟨S7, hS7⟩ : ∃ S7, x6.heap.size = S7 := ⟨_, rfl⟩
  (try simp only [hS7])
  have H7a : Box (x7.heap[S7]? = some (.cells RZ 36 (0, 0)) ∧ Below w1.heap.size w1 x7) := ⟨by rw [← hS7]; exact H7.out.1, below_to H6.out H7.out.2⟩
  clear hS7 H6 H7
  obtain ⟨D, hD⟩ : ∃ D, x7.heap.size + 1 = D := ⟨_, rfl⟩
  have HD : Box (Calls Tryz.prog 8 #[.int .i64 20] x7 fun e w' => e = .returned (.tuple #[.pointer (some ⟨D, 0, none⟩), .int .i64 0]) ∧ ∃ fp, Disk.Cx x7 w' D fp d0) := ⟨by have := Disk.new_cx x7 20 ⟨by omega, by omega⟩; rw [hD, hd0] at this; exact this⟩
  clear hD hd0
  go_upto_region 12 with (go_at_call 8; refine HD.out.mono ?_; rintro e x8 ⟨rfl, fp8, hc⟩; have H8 : Box (Disk.Cx x7 x8 D fp8 d0) := ⟨hc⟩; clear hc)
  clear HD
  go_upto_region 13 with fail
  clear hwn hwf
  have HVN : Box (Calls Tryz.prog 9 #[.pointer (some ⟨D, 0, none⟩), .agg AK, .int .i64 5, .agg RZ, .int .u64 (fr : Int), .int .u64 (lm : Int)] x8 fun e w' => ∃ V fp' sa sc, e = .returned (.tuple #[.pointer (some ⟨V, 0, none⟩), .int .i64 0]) ∧ VC x7 w' V D fp' ⟨K, 5, zr, (fr : Int), (lm : Int)⟩ d0 sa sc) := ⟨by
    have hx := HX.out x7 H7a.out.2
    have hQ := HQ.out
    have := vnew_ok H8.out K HKI.out.2.2 5 (by omega) (by omega) zr okR_zr (fr : Int) (lm : Int) ⟨by omega, by omega⟩ ⟨by omega, by omega⟩ hx.2.1 hx.2.2.1 (by rw [HD0.out.2.1]; decide) (by omega) (by omega)
    rw [HAK.out, HRZ.out] at this
    exact this.mono fun e w' ⟨V, fp', sa, sc, h1, h2, _⟩ => ⟨V, fp', sa, sc, h1, h2⟩⟩
  have HRG : Box (x8.rangeAt S 0 (K.map (Value.int .u8))) := ⟨(HX.out x8 (below_to H7a.out.2 H8.out.bel)).1⟩
  go_upto_region 14 with (first
    | (refine atLoad 23 ?_; refine wpList_ldMid rfl 23 _ _ rfl Tryz.underlying23 rfl S 0 rfl (K.map (Value.int .u8)) HKI.out.1 HRG.out ?_; rw [HKI.out.2.1])
    | (refine atBuild 36 ?_; refine wpList_run rfl _ _ (exec_built 36 [] rfl [] rfl RZ (by rw [← HRZ.out]; exact built_R0)) ?_)
    | (go_at_call 9; refine HVN.out.mono ?_; rintro e x9 ⟨V, fp9, sa, sc, rfl, hc⟩; have H9 : Box (VC x7 x9 V D fp9 ⟨K, 5, zr, (fr : Int), (lm : Int)⟩ d0 sa sc) := ⟨hc⟩; clear hc))
  clear HVN HRG H8
  have HR9 : Box (x9.rangeAt S7 0 (rc zr)) := ⟨fun i v hv => by
    rw [cell_of_row _ _ _ _ _ _ ((H9.out.cx.bel.block S7 (Array.getElem?_eq_some_iff.1 H7a.out.1).1).trans H7a.out.1), Nat.zero_add, ← HRI.out.2.2.2.2]
    simpa using hv⟩
  have HEQ : Box ((!eqR zr zr) = false) := ⟨by rw [(eqR_iff zr zr).2 rfl]; rfl⟩
  have HIM : Box (Calls Tryz.prog 10 #[.slice a n cap, .bool false] x9 fun e w' => ∃ xa xc X, e = .returned (.slice xa n xc) ∧ Md 5 x9.heap.size x9 w' (.slice xa n xc) n 0 X) := ⟨by
    have hx := HX.out x9 (below_to H7a.out.2 H9.out.cx.bel)
    have h6 := HL6.out
    have := Rec.images_any a cap M false x9 hx.2.2.2.1 (by omega)
    rw [HN.out] at this
    refine this.mono ?_
    rintro e w' ⟨v, X, rfl, h⟩
    have hl : X.length = n := h.len
    have hr := h.im.row
    rw [hl] at hr
    obtain ⟨xa, xc, rfl⟩ := Rec.own_form2 hr
    refine ⟨xa, xc, X, rfl, h.im, hl, fun m hm => ?_, fun i hi hk => absurd hk (by omega), h.bel⟩
    have hm1 : Rec.pl m ∈ X.map Rec.pl := List.mem_map.2 ⟨m, hm, rfl⟩
    rw [h.pls] at hm1
    have hm2 := List.mem_of_mem_take hm1
    obtain ⟨j, hj, hj2⟩ := List.getElem_of_mem hm2
    rw [Rec.get_imgP false _ j (by rw [Rec.len_imgP] at hj; exact hj)] at hj2
    have hb := (h.im.byt m hm).byi.1.1
    have e1 : m.bs.length = 160 := by
      rw [show m.bs = (Rec.pl m).2 from rfl, ← hj2]
      exact length_padTo _ _
    omega⟩
  go_upto_region 17 with (first
    | (refine atLoad 36 ?_; refine wpList_runG (by rfl) _ _ (exec_load_mid 36 _ _ rfl Tryz.underlying36 rfl S7 0 rfl (rc zr) HRI.out.2.2.2.1 HR9.out) ?_; rw [HRI.out.2.2.2.2])
    | (refine atBuild 36 ?_; refine wpList_runG (by rfl) _ _ (exec_built 36 [] rfl [] rfl RZ (by rw [← HRZ.out]; exact built_R0)) ?_)
    | (refine atBin .neq 36 ?_; refine wpList_runG (by rfl) _ _ (exec_neRf _ _ _ rfl zr zr okR_zr okR_zr false HEQ.out (by rw [HRZ.out]; rfl) (by rw [HRZ.out]; rfl)) ?_)
    | (go_at_call 10; refine HIM.out.mono ?_; rintro e x10 ⟨xa, xc, X, rfl, hmd⟩; have H10 : Box (Md 5 x9.heap.size x9 x10 (.slice xa n xc) n 0 X) := ⟨hmd⟩; clear hmd))
  clear HIM HR9 HEQ
  have hn6 : n ≤ 6 := by rw [← HN.out]; exact HL6.out
  go_upto_region 18 with fail
  --A
  go_loopw [23] (fun i wr => ∃ (k : Nat) (Y : List Rec.Im), k ≤ n ∧ i = .int .i64 (k : Int) ∧ Box (Md 5 x9.heap.size x9 wr (.slice xa n xc) n k Y)) (fun i _ => n - (intOf i).toNat)
  case atStart => exact ⟨0, X, Nat.zero_le _, rfl, H10⟩
  case round =>
    clear H10
    obtain ⟨k, Y, hk, rfl, HG⟩ := hrel
    by_cases hlt : k < n
    · have hlt1 : decide ((k : Int) < (n : Int)) = true := by simp; omega
      have hkY : k < Y.length := by rw [HG.out.len]; exact hlt
      obtain ⟨g, rfl, hg1, hg2⟩ := oimgs_form HG.out.im (by omega)
      have HML : Box (k < n) := ⟨hlt⟩
      obtain ⟨hc1, hc2⟩ := oimgs_cell HG.out.im k hkY
      obtain ⟨b, hb⟩ : ∃ b, Y[k].blk = b := ⟨_, rfl⟩
      have hb0 : 0 ≤ b := by rw [← hb]; exact ((HG.out.im.byt Y[k] (List.getElem_mem hkY)).num).1
      obtain ⟨z, hz⟩ : ∃ z, b % 5 = z := ⟨_, rfl⟩
      have HST : Box (Md 5 x9.heap.size x9 (wr.setCell ⟨g, k * 2, none⟩ (.int .u64 z)) (.slice (some ⟨g, 0, none⟩) n xc) n (k + 1) (Y.set k { Y[k] with blk := z })) := ⟨HG.out.step hkY hg1 (by omega) (by omega) z (by rw [hb]; exact hz)⟩
      rw [hb] at hc1
      have hz2 : b.tmod 5 = z := by rw [← hz]; exact Int.tmod_eq_emod_of_nonneg hb0
      have hw4 : IntKind.i64.wrap ((k : Int) + 1) = ((k + 1 : Nat) : Int) := by rw [IntKind.wrap_i64]; omega
      have hz5 : b % 5 = z := hz
      generalize Y.set k { Y[k] with blk := z } = Y2 at HST
      clear HG hkY hb hg1 hg2 hb0 hz
      go_wp2_with (refine Rec.atIdx 24 ?_; refine wpList_run rfl _ _ (Rec.exec_idxT 24 41 Tryz.underlying24 2 Rec.infoIm _ _ rfl g 0 n xc k rfl rfl HML.out) ?_)
      go_roundw
      case rel => exact ⟨k + 1, Y2, HML.out, by go_num, HST⟩
      case measure => simp [intOf]; omega
    · have hkn : k = n := by omega
      have hlt1 : decide ((k : Int) < (n : Int)) = false := by simp; omega
      have HG1 : Box (Md 5 x9.heap.size x9 wr (.slice xa n xc) n n Y) := ⟨hkn ▸ HG.out⟩
      clear HG hkn hk
      --B
      obtain ⟨y1, hy1⟩ : ∃ y, y = wr := ⟨_, rfl⟩
      rw [← hy1] at HG1 ⊢
      clear hy1
      obtain ⟨H, hH⟩ : ∃ H, y1.heap.size = H := ⟨_, rfl⟩
      obtain ⟨y2, hy2⟩ : ∃ y, y1.alloc (.cells (b8 f8) 59) = y := ⟨_, rfl⟩
      have HY2 : Box (y2.heap[H]? = some (.cells (b8 (htL ([] : List Nat)).1) 59 (0, 0)) ∧ Below H y1 y2) := ⟨by rw [← hy2]; exact al_at hH, by rw [← hy2, ← hH]; exact (Below.refl _ _).alloc (Nat.le_refl _) _⟩
      have HHS : Box (y1.heap.size = H) := ⟨hH⟩
      go_upto_region 24 with (refine atAlloc _ ?_; refine wpList_run rfl _ _ (exec_alloc 59 rfl _ zero8) ?_)
      (try simp only [hH, hy2])
      clear hH hy2 hlt1
      obtain ⟨bl, hbl⟩ : ∃ bl, Y.map (fun m => m.blk.toNat) = bl := ⟨_, rfl⟩
      have HBL : Box (bl.length = n ∧ (∀ b ∈ bl, b < 5) ∧ Y.map (fun m => m.blk.toNat) = bl) := ⟨by rw [← hbl, List.length_map]; exact HG1.out.len, fun b hb => by
        rw [← hbl] at hb
        obtain ⟨m, hm, rfl⟩ := List.mem_map.1 hb
        obtain ⟨i, hi, rfl⟩ := List.getElem_of_mem hm
        have h1 := HG1.out.sm i hi (by rw [← HG1.out.len]; exact hi)
        have h2 := (HG1.out.im.byt Y[i] hm).num.1
        omega, hbl⟩
      clear hbl
      have HCU : Box (∀ x, Below H y1 x → ∀ k, k < n → ∃ g, xa = some ⟨g, 0, none⟩ ∧ x.cell? ⟨g, k * 2, none⟩ = some (.int .u64 ((bl.getD k 0 : Nat) : Int))) := ⟨fun x hx k hk => by
        have hkY : k < Y.length := by rw [HG1.out.len]; exact hk
        obtain ⟨g, rfl, hg1, hg2⟩ := oimgs_form HG1.out.im (by omega)
        refine ⟨g, rfl, ?_⟩
        have hc := (oimgs_cell HG1.out.im k hkY).1
        rw [World.cell?_of_block (hx.block g (by rw [← HHS.out]; exact hg2)), hc]
        have h2 := (HG1.out.im.byt Y[k] (List.getElem_mem hkY)).num.1
        have e : bl.getD k 0 = Y[k].blk.toNat := by rw [← HBL.out.2.2]; simp [List.getD, hkY]
        rw [e]
        congr 2
        omega⟩
      have HNB : Box (∀ k, (htL (bl.take k)).2 ≤ 18) := ⟨fun k => by
        have h := htL_le (bl.take k) (List.replicate 8 false, 0)
        have h2 : (bl.take k).length ≤ 6 := by have := HBL.out.1; rw [List.length_take]; omega
        show (List.foldl htB _ _).2 ≤ 18
        simp only at h
        omega⟩
      --C
      go_loopw [25, 26] (fun c i wr => ∃ (k : Nat), k ≤ n ∧ i = .int .i64 (k : Int) ∧ c = .int .u64 (((htL (bl.take k)).2 : Nat) : Int) ∧ Box (wr.heap[H]? = some (.cells (b8 (htL (bl.take k)).1) 59 (0, 0)) ∧ Below H y1 wr)) (fun _ i _ => n - (intOf i).toNat)
      case atStart => exact ⟨0, Nat.zero_le _, rfl, rfl, HY2⟩
      case round =>
        clear HY2
        obtain ⟨k, hk, rfl, rfl, HK⟩ := hrel
        by_cases hlt : k < n
        · have hlt1 : decide ((k : Int) < (n : Int)) = true := by simp; omega
          obtain ⟨g, rfl, _⟩ := HCU.out wr HK.out.2 k hlt
          have HCG : Box (∀ x, Below H y1 x → x.cell? ⟨g, k * 2, none⟩ = some (.int .u64 ((bl.getD k 0 : Nat) : Int))) := ⟨fun x hx => by
            obtain ⟨g', e, hc⟩ := HCU.out x hx k hlt
            cases e
            exact hc⟩
          obtain ⟨s, hs⟩ : ∃ s, htL (bl.take k) = s := ⟨_, rfl⟩
          have hsn : htL (bl.take (k + 1)) = htB s (bl.getD k 0) := by
            have hkb : k < bl.length := by rw [HBL.out.1]; exact hlt
            rw [List.take_succ_eq_append_getElem hkb, htL_snoc, hs]
            simp [List.getD, hkb]
          obtain ⟨b, hb⟩ : ∃ b, bl.getD k 0 = b := ⟨_, rfl⟩
          have hb5 : b < 5 := by
            rw [← hb]
            have hkb : k < bl.length := by rw [HBL.out.1]; exact hlt
            exact HBL.out.2.1 _ (by simp [List.getD, hkb])
          have HSL : Box (s.1.length = 8 ∧ s.2 ≤ 18) := ⟨by rw [← hs]; exact htL_len _, by rw [← hs]; exact HNB.out k⟩
          have HSN : Box (htL (bl.take (k + 1)) = htB s b) := ⟨by rw [hsn, hb]⟩
          rw [hb] at HCG
          rw [hs] at HK ⊢
          have HML : Box (k < n) := ⟨hlt⟩
          clear hs hsn hb
          have hwb : IntKind.i64.wrap (b : Int) = (b : Int) := by rw [IntKind.wrap_i64]; omega
          have hqb : (b : Int).tdiv 4 = ((b / 4 : Nat) : Int) := by rfl
          have hqc : (b : Int) / 4 = ((b / 4 : Nat) : Int) := by omega
          have hwq4 : IntKind.i64.wrap ((b / 4 : Nat) : Int) = ((b / 4 : Nat) : Int) := by rw [IntKind.wrap_i64]; omega
          obtain ⟨b5, hb5e⟩ : ∃ x, 5 + b / 4 = x := ⟨_, rfl⟩
          have hwa : IntKind.i64.wrap (5 + ((b / 4 : Nat) : Int)) = (b5 : Int) := by rw [IntKind.wrap_i64]; omega
          obtain ⟨b4, hb4⟩ : ∃ x, b / 4 = x := ⟨_, rfl⟩
          rw [hb4] at hqb hqc hwq4 hwa
          have HB4 : Box (5 + b / 4 = b5 ∧ b < 5) := ⟨hb5e, hb5⟩
          clear hb4 hb5 hb5e
          obtain ⟨wo, hwo⟩ : ∃ wo, wo = wr := ⟨_, rfl⟩
          rw [← hwo] at HK ⊢
          clear hwo
          go_upto_region 26 with fail
          clear hlt1 hlt
          refine Disk.begin_keep (S := fun x => Below H y1 x) (by kernel_rfl) (fun wd hwd => ?_)
          have hS : Below H y1 wd := by rw [hwd]; exact HK.out.2.trans ((Below.refl _ _).drew.mono (by have := HK.out.2.size; rw [HHS.out] at this; exact this))
          have HWH : Box (wd.heap[H]? = some (.cells (b8 s.1) 59 (0, 0))) := ⟨by rw [hwd]; exact HK.out.1⟩
          clear hwd
          refine take_s (i := 0) (v := ?_) rfl (by kernel_rfl) (by kernel_rfl) (by kernel_rfl) (fun _ _ _ h => h) (by rfl) ?_ hS ?_
          rotate_left
          · intro w' hLat; clear hLat; go_simp <;> with_reducible rfl
          try simp only [Act.put, List.setIfInBounds_toArray, List.set_cons_zero, List.set_cons_succ, List.getElem_toArray, List.getElem_cons_zero]
          refine take_s (i := 1) (v := ?_) rfl (by kernel_rfl) (by kernel_rfl) (by kernel_rfl) (fun _ _ _ h => h) (by rfl) ?_ hS ?_
          rotate_left
          · intro w' hLat; clear hLat; go_simp <;> with_reducible rfl
          try simp only [Act.put, List.setIfInBounds_toArray, List.set_cons_zero, List.set_cons_succ, List.getElem_toArray, List.getElem_cons_zero, List.getElem_cons_succ]
          refine take_s (i := 2) (v := .pointer (some ⟨g, 0 + k * 2, none⟩)) rfl (by kernel_rfl) (by kernel_rfl) (by kernel_rfl) (fun _ _ _ h => h) (by rfl) (fun w' hLat => exec_idxIm _ _ rfl g 0 n xc k rfl rfl HML.out) hS ?_
          try simp only [Act.put, List.setIfInBounds_toArray, List.set_cons_zero, List.set_cons_succ, List.getElem_toArray, List.getElem_cons_zero, List.getElem_cons_succ]
          refine take_s (i := 3) (v := ?_) rfl (by kernel_rfl) (by kernel_rfl) (by kernel_rfl) (fun _ _ _ h => h) (by rfl) ?_ hS ?_
          rotate_left
          · intro w' hLat; clear hLat; go_simp <;> with_reducible rfl
          try simp only [Act.put, List.setIfInBounds_toArray, List.set_cons_zero, List.set_cons_succ, List.getElem_toArray, List.getElem_cons_zero, List.getElem_cons_succ]
          refine take_s (i := 4) (v := .int .u64 (b : Int)) rfl (by kernel_rfl) (by kernel_rfl) (by kernel_rfl) (fun _ _ _ h => h) (by rfl) (fun w' hLat => Disk.exec_load1 34 _ _ rfl Tryz.underlying34 rfl _ rfl _ (by have h9 := HCG.out w' hLat; simpa using h9)) hS ?_
          try simp only [Act.put, List.setIfInBounds_toArray, List.set_cons_zero, List.set_cons_succ, List.getElem_toArray, List.getElem_cons_zero, List.getElem_cons_succ]
          refine take_s (i := 5) (v := ?_) rfl (by kernel_rfl) (by kernel_rfl) (by kernel_rfl) (fun _ _ _ h => h) (by rfl) ?_ hS ?_
          rotate_left
          · intro w' hLat; clear hLat; go_simp <;> with_reducible rfl
          try simp only [Act.put, List.setIfInBounds_toArray, List.set_cons_zero, List.set_cons_succ, List.getElem_toArray, List.getElem_cons_zero, List.getElem_cons_succ]
          refine take_s (i := 6) (v := ?_) rfl (by kernel_rfl) (by kernel_rfl) (by kernel_rfl) (fun _ _ _ h => h) (by rfl) ?_ hS ?_
          rotate_left
          · intro w' hLat; clear hLat; go_simp <;> with_reducible rfl
          try simp only [Act.put, List.setIfInBounds_toArray, List.set_cons_zero, List.set_cons_succ, List.getElem_toArray, List.getElem_cons_zero, List.getElem_cons_succ]
          refine take_s (i := 7) (v := ?_) rfl (by kernel_rfl) (by kernel_rfl) (by kernel_rfl) (fun _ _ _ h => h) (by rfl) ?_ hS ?_
          rotate_left
          · intro w' hLat; clear hLat; go_simp <;> with_reducible rfl
          try simp only [Act.put, List.setIfInBounds_toArray, List.set_cons_zero, List.set_cons_succ, List.getElem_toArray, List.getElem_cons_zero, List.getElem_cons_succ]
          refine take_s (i := 8) (v := .pointer (some ⟨g, 0 + k * 2, none⟩)) rfl (by kernel_rfl) (by kernel_rfl) (by kernel_rfl) (fun _ _ _ h => h) (by rfl) (fun w' hLat => exec_idxIm _ _ rfl g 0 n xc k rfl rfl HML.out) hS ?_
          try simp only [Act.put, List.setIfInBounds_toArray, List.set_cons_zero, List.set_cons_succ, List.getElem_toArray, List.getElem_cons_zero, List.getElem_cons_succ]
          refine take_s (i := 9) (v := ?_) rfl (by kernel_rfl) (by kernel_rfl) (by kernel_rfl) (fun _ _ _ h => h) (by rfl) ?_ hS ?_
          rotate_left
          · intro w' hLat; clear hLat; go_simp <;> with_reducible rfl
          try simp only [Act.put, List.setIfInBounds_toArray, List.set_cons_zero, List.set_cons_succ, List.getElem_toArray, List.getElem_cons_zero, List.getElem_cons_succ]
          refine take_s (i := 10) (v := .int .u64 (b : Int)) rfl (by kernel_rfl) (by kernel_rfl) (by kernel_rfl) (fun _ _ _ h => h) (by rfl) (fun w' hLat => Disk.exec_load1 34 _ _ rfl Tryz.underlying34 rfl _ rfl _ (by have h9 := HCG.out w' hLat; simpa using h9)) hS ?_
          try simp only [Act.put, List.setIfInBounds_toArray, List.set_cons_zero, List.set_cons_succ, List.getElem_toArray, List.getElem_cons_zero, List.getElem_cons_succ]
          refine take_s (i := 11) (v := ?_) rfl (by kernel_rfl) (by kernel_rfl) (by kernel_rfl) (fun _ _ _ h => h) (by rfl) ?_ hS ?_
          rotate_left
          · intro w' hLat; clear hLat; go_simp <;> with_reducible rfl
          try simp only [Act.put, List.setIfInBounds_toArray, List.set_cons_zero, List.set_cons_succ, List.getElem_toArray, List.getElem_cons_zero, List.getElem_cons_succ]
          refine take_s (i := 12) (v := ?_) rfl (by kernel_rfl) (by kernel_rfl) (by kernel_rfl) (fun _ _ _ h => h) (by rfl) ?_ hS ?_
          rotate_left
          · intro w' hLat; clear hLat; go_simp <;> with_reducible rfl
          try simp only [Act.put, List.setIfInBounds_toArray, List.set_cons_zero, List.set_cons_succ, List.getElem_toArray, List.getElem_cons_zero, List.getElem_cons_succ]
          refine take_s (i := 13) (v := ?_) rfl (by kernel_rfl) (by kernel_rfl) (by kernel_rfl) (fun _ _ _ h => h) (by rfl) ?_ hS ?_
          rotate_left
          · intro w' hLat; clear hLat; go_simp <;> with_reducible rfl
          try simp only [Act.put, List.setIfInBounds_toArray, List.set_cons_zero, List.set_cons_succ, List.getElem_toArray, List.getElem_cons_zero, List.getElem_cons_succ]
          refine Disk.one_keep (i := 14) (by kernel_rfl) ?_
          refine Disk.keep_step rfl (by rfl) ?_
          go_simp
          obtain ⟨G, hG⟩ : ∃ G, wd.heap.size = G := ⟨_, rfl⟩
          obtain ⟨v9, hv9⟩ : ∃ v, wd.alloc (.cells #[.int .i64 (b : Int), .int .i64 (b5 : Int), .int .i64 7] 3) = v := ⟨_, rfl⟩
          have hHG : H ≤ wd.heap.size := by have := hS.size; rw [HHS.out] at this; exact this
          have hb9 : Below wd.heap.size wd v9 := by rw [← hv9]; exact (Below.refl _ _).alloc (Nat.le_refl _) _
          have hr9 : v9.heap[G]? = some (.cells #[.int .i64 (b : Int), .int .i64 (b5 : Int), .int .i64 7] 3 (0, 0)) := by rw [← hv9]; exact al_at hG
          simp only [hG, hv9]
          have hS9 : Below H y1 v9 := hS.trans (hb9.mono hHG)
          have hHl : H < wd.heap.size := (Array.getElem?_eq_some_iff.1 HWH.out).1
          have HGH : Box (G ≠ H ∧ True) := ⟨by omega, trivial⟩
          have HV : Box (v9.heap[H]? = some (.cells (b8 s.1) 59 (0, 0)) ∧ v9.heap[G]? = some (.cells #[.int .i64 (b : Int), .int .i64 (b5 : Int), .int .i64 7] 3 (0, 0)) ∧ Below H y1 v9) := ⟨(hb9.block H hHl).trans HWH.out, hr9, hS9⟩
          refine ⟨hS9, ?_⟩
          replace hS := hS9
          clear hv9 hG hS9 hb9 hr9 hHl hHG HWH
          try simp only [Act.put, List.setIfInBounds_toArray, List.set_cons_zero, List.set_cons_succ, List.getElem_toArray, List.getElem_cons_zero, List.getElem_cons_succ]
          refine take_s (i := 15) (v := ?_) rfl (by kernel_rfl) (by kernel_rfl) (by kernel_rfl) (fun _ _ _ h => h) (by rfl) ?_ hS ?_
          rotate_left
          · intro w' hLat; clear hLat; go_simp <;> with_reducible rfl
          try simp only [Act.put, List.setIfInBounds_toArray, List.set_cons_zero, List.set_cons_succ, List.getElem_toArray, List.getElem_cons_zero, List.getElem_cons_succ]
          refine wpAnyH_done (by kernel_rfl) ?_ _
          clear hS
          --D
          go_upto_region 28 with fail
          go_loopw [25, 28] (fun c i wr => ∃ (j : Nat), j ≤ 3 ∧ i = .int .i64 (j : Int) ∧ c = .int .u64 (((htj s b j).2 : Nat) : Int) ∧ Box (wr.heap[H]? = some (.cells (b8 (htj s b j).1) 59 (0, 0)) ∧ wr.heap[G]? = some (.cells #[.int .i64 (b : Int), .int .i64 (b5 : Int), .int .i64 7] 3 (0, 0)) ∧ Below H y1 wr)) (fun _ i _ => 3 - (intOf i).toNat)
          case atStart => exact ⟨0, Nat.zero_le _, rfl, rfl, HV⟩
          case round =>
            clear HV
            obtain ⟨j, hj, rfl, rfl, HJ⟩ := hrel
            obtain ⟨s3, hs3⟩ : ∃ s3, htj s b j = s3 := ⟨_, rfl⟩
            by_cases hj3 : j < 3
            · have hj1 : decide ((j : Int) < 3) = true := by simp; omega
              obtain ⟨p, hp⟩ : ∃ p, htP b j = p := ⟨_, rfl⟩
              have hp8 : p < 8 := by rw [← hp]; exact htP_lt b j HB4.out.2
              have HSJ : Box (htj s b (j + 1) = ht s3 p ∧ s3.1.length = 8 ∧ s3.2 ≤ 21) := ⟨by rw [← hs3, ← hp]; rfl, by rw [← hs3, htj_len]; exact HSL.out.1, by rw [← hs3]; have := htj_le s b j; have := HSL.out.2; omega⟩
              rw [hs3] at HJ ⊢
              have hcp : wr.cell? ⟨G, j, none⟩ = some (.int .i64 (p : Int)) := by
                rw [cell_of_row _ _ _ _ _ _ HJ.out.2.1, ← hp]
                have h4 := HB4.out.1
                match j, hj3 with
                | 0, _ => rfl
                | 1, _ => simp [htP, h4]
                | 2, _ => rfl
              obtain ⟨hcb, hfb⟩ := b8_cell HJ.out.1 p (by rw [HSJ.out.2.1]; exact hp8)
              have hw5 : IntKind.i64.wrap ((j : Int) + 1) = ((j + 1 : Nat) : Int) := by rw [IntKind.wrap_i64]; omega
              have hwn1 : IntKind.u64.wrap ((s3.2 : Int) + 1) = ((s3.2 + 1 : Nat) : Int) := by rw [IntKind.wrap_u64]; have := HSJ.out.2.2; omega
              have hGH : G ≠ H := HGH.out.1
              clear hp hs3
              cases hbit : s3.1.getD p false with
              | true =>
                rw [hbit] at hcb
                have HN : Box (wr.heap[H]? = some (.cells (b8 (htj s b (j + 1)).1) 59 (0, 0)) ∧ wr.heap[G]? = some (.cells #[.int .i64 (b : Int), .int .i64 (b5 : Int), .int .i64 7] 3 (0, 0)) ∧ Below H y1 wr) := ⟨by rw [HSJ.out.1, ht_true _ _ hbit]; exact HJ.out⟩
                have hcn : (htj s b (j + 1)).2 = s3.2 := by rw [HSJ.out.1, ht_true _ _ hbit]
                clear hbit hfb HJ hwn1
                obtain ⟨cn, hcn2⟩ : ∃ c, s3.2 = c := ⟨_, rfl⟩
                rw [hcn2] at hcn ⊢
                clear hcn2
                go_wp2
                go_roundw
                case rel => exact ⟨j + 1, by omega, by go_num, (by rw [hcn]; (try simp)), HN⟩
                case measure => simp [intOf]; omega
              | false =>
                rw [hbit] at hcb
                have HN : Box ((wr.setCell ⟨H, p, none⟩ (.bool true)).heap[H]? = some (.cells (b8 (htj s b (j + 1)).1) 59 (0, 0)) ∧ (wr.setCell ⟨H, p, none⟩ (.bool true)).heap[G]? = some (.cells #[.int .i64 (b : Int), .int .i64 (b5 : Int), .int .i64 7] 3 (0, 0)) ∧ Below H y1 (wr.setCell ⟨H, p, none⟩ (.bool true))) := ⟨by rw [HSJ.out.1, ht_false _ _ hbit]; exact b8_set HJ.out.1 p, by rw [heap_setCell_other wr ⟨H, p, none⟩ G _ hGH]; exact HJ.out.2.1, below_set HJ.out.2.2 (Nat.le_refl _) _⟩
                have hcn : (htj s b (j + 1)).2 = s3.2 + 1 := by rw [HSJ.out.1, ht_false _ _ hbit]
                clear hbit HJ
                obtain ⟨cn, hcn2⟩ : ∃ c, s3.2 = c := ⟨_, rfl⟩
                rw [hcn2] at hcn hwn1 ⊢
                clear hcn2
                go_wp2
                go_roundw
                case rel => exact ⟨j + 1, by omega, by go_num, (by rw [hcn]; (try simp)), HN⟩
                case measure => simp [intOf]; omega
            · have hj1 : decide ((j : Int) < 3) = false := by simp; omega
              have hj4 : j = 3 := by omega
              have HE : Box (wr.heap[H]? = some (.cells (b8 (htL (bl.take (k + 1))).1) 59 (0, 0)) ∧ Below H y1 wr) := ⟨by rw [HSN.out, ← htj_three, ← hj4]; exact HJ.out.1, HJ.out.2.2⟩
              have hce : (htj s b j).2 = (htL (bl.take (k + 1))).2 := by rw [HSN.out, ← htj_three, hj4]
              rw [hs3] at hce ⊢
              have hw4 : IntKind.i64.wrap ((k : Int) + 1) = ((k + 1 : Nat) : Int) := by rw [IntKind.wrap_i64]; omega
              obtain ⟨cn, hcn2⟩ : ∃ c, s3.2 = c := ⟨_, rfl⟩
              rw [hcn2] at hce ⊢
              clear hcn2 hj4 HJ hs3 hj
              go_wp2
              exact ⟨⟨k + 1, HML.out, by go_num, by rw [← hce], HE⟩, by simp [intOf]; have := HML.out; omega⟩
        · have hkn : k = n := by omega
          have hlt1 : decide ((k : Int) < (n : Int)) = false := by simp; omega
          have hfull : bl.take k = bl := List.take_of_length_le (by rw [HBL.out.1]; omega)
          rw [hfull] at HK ⊢
          --E
          obtain ⟨NN, hNN⟩ : ∃ NN, (htL bl).2 = NN := ⟨_, rfl⟩
          rw [hNN]
          obtain ⟨y3, hy3⟩ : ∃ y, y = wr := ⟨_, rfl⟩
          rw [← hy3] at HK ⊢
          have HB3 : Box (Below x9.heap.size x9 y3 ∧ Below H y1 y3) := ⟨below_to HG1.out.bel (by rw [HHS.out]; exact HK.out.2), HK.out.2⟩
          have HNB2 : Box (NN ≤ 18) := ⟨by rw [← hNN]; have := HNB.out k; rw [hfull] at this; exact this⟩
          have HIM3 : Box (Rec.OImgs y3 x9.heap.size (.slice xa n xc) Y) := ⟨oimgs_keep HG1.out.im (fun i h1 h2 => HB3.out.2.block i (by rw [← HHS.out]; exact h2))⟩
          clear HK hy3 hkn hk hfull
          have HUM : Box (∃ d' R, updM (Yk K) Xd 5 (topL 5) (lm : Int) (LM (Y.map toIm)) d0 (fr : Int) zr = (d', ((if q < NN then fr else fr + NN : Nat) : Int), (if q < NN then 15 else 0), R) ∧ OkR R ∧ d'.uw.length = (if q < NN then 0 else NN)) := ⟨by
            have hQ := HQ.out
            refine worn_upd K fr q lm H9.out.ok Y HG1.out.bl (fun m hm => ?_) (fun m hm => ?_) d0 HD0.out.1 HD0.out.2.2.2.1 hQ.2.2.2.1 hQ.2.1 hQ.2.2.2.2 NN ?_
            · have h := HG1.out.im.byt m hm
              exact ⟨h.byi.1.1, h.byt, h.num.1⟩
            · obtain ⟨i, hi, rfl⟩ := List.getElem_of_mem hm
              exact HG1.out.sm i hi (by rw [← HG1.out.len]; exact hi)
            · rw [HBL.out.2.2]; exact hNN⟩
          obtain ⟨d', R, hum, hokR, huw⟩ := HUM.out
          have HR : Box (OkR R) := ⟨hokR⟩
          obtain ⟨RR, HRR⟩ : ∃ A, Box (ra R = A) := ⟨_, ⟨rfl⟩⟩
          have HRRI : Box ((Tryz.prog.info? 36).map (·.size) = some RR.size ∧ (ra zr).size = RR.size ∧ RR.all (·.oneCell') = true) := ⟨by rw [← HRR.out, size_ra HR.out]; exact infoR, by rw [← HRR.out, size_ra HR.out, size_ra okR_zr], by rw [← HRR.out]; exact all_ra R⟩
          obtain ⟨nx', hnx'⟩ : ∃ x : Nat, (if q < NN then fr else fr + NN : Nat) = x := ⟨_, rfl⟩
          obtain ⟨er, her⟩ : ∃ x : Int, (if q < NN then (15 : Int) else 0) = x := ⟨_, rfl⟩
          obtain ⟨pn, hpn⟩ : ∃ x : Nat, (if q < NN then 0 else NN : Nat) = x := ⟨_, rfl⟩
          rw [hnx', her] at hum
          rw [hpn] at huw
          have HUP : Box (Calls Tryz.prog 11 #[.pointer (some ⟨V, 0, none⟩), .slice xa n xc] y3 fun e w' => ∃ fp', e = .returned (.tuple #[.agg RR, .int .i64 er]) ∧ VC x7 w' V D fp' ⟨K, 5, zr, (nx' : Int), (lm : Int)⟩ d' sa sc) := ⟨by
            have hI : Imgs y3 xa (Y.map toIm) := imgs_to (Rec.OImgs.imgs (c := xc) (by rw [HG1.out.len]; exact HIM3.out))
            have hV := H9.out.lt
            have hbk : ∀ m ∈ Y.map toIm, ∀ ad, m.ba = some ad → ¬ fp9 ad.block ∧ ad.block ≠ V := fun m hm ad e => by
              obtain ⟨y, hy, rfl⟩ := List.mem_map.1 hm
              have h := oim_blk (HIM3.out.byt y hy) ad e
              exact ⟨fun hf => by have := H9.out.cx.hi _ hf; omega, by omega⟩
            have hQ := HQ.out
            have hln : (Y.map toIm).length = n := by rw [List.length_map]; exact HG1.out.len
            have := update_v (H9.out.below HB3.out.1) xa xc (Y.map toIm) hI (by rw [hln]; omega) hbk (by show (1 : Int) ≤ (fr : Int); omega) HD0.out.2.2.2.2 (by rw [HD0.out.2.2.1]; omega) (by rw [HD0.out.2.2.2.1]; omega)
            rw [show updM (Yk (⟨K, 5, zr, (fr : Int), (lm : Int)⟩ : Vt).key) Xd (⟨K, 5, zr, (fr : Int), (lm : Int)⟩ : Vt).n (topL (⟨K, 5, zr, (fr : Int), (lm : Int)⟩ : Vt).n) (⟨K, 5, zr, (fr : Int), (lm : Int)⟩ : Vt).lim (LM (Y.map toIm)) d0 (⟨K, 5, zr, (fr : Int), (lm : Int)⟩ : Vt).nx (⟨K, 5, zr, (fr : Int), (lm : Int)⟩ : Vt).top = (d', (nx' : Int), er, R) from hum, hln] at this
            refine this.mono ?_
            rintro e w' ⟨fp', g1, g2, g3⟩
            exact ⟨fp', by rw [g1]; show Ending.returned (.tuple #[.agg (ra R), .int .i64 er]) = _; rw [HRR.out], g2⟩⟩
          clear hum hokR HUM HIM3 HB3 HCU HG1 HBL HNB
          go_upto_region 34 with (first
            | (go_at_call 11; refine HUP.out.mono ?_; rintro e x11 ⟨fp11, rfl, g1⟩; have H11 : Box (VC x7 x11 V D fp11 ⟨K, 5, zr, (nx' : Int), (lm : Int)⟩ d' sa sc) := ⟨g1⟩; clear g1)
            | (refine atAlloc _ ?_; refine wpList_run rfl _ _ (exec_alloc 36 rfl _ zeroR) ?_)
            | (refine atStore _ ?_; refine wpList_newRow x11 (ra zr) RR HRRI.out.1 HRRI.out.2.1 HRRI.out.2.2 rfl _ _ rfl rfl rfl rfl ?_; intro x12 h12 hb12; have H12 : Box (VC x7 x12 V D fp11 ⟨K, 5, zr, (nx' : Int), (lm : Int)⟩ d' sa sc) := ⟨H11.out.below hb12⟩; clear h12 hb12))
          clear HUP H11
          have HTP : Box (Calls Tryz.prog 20 #[.pointer (some ⟨V, 0, none⟩)] x12 fun e w' => e = .returned (.tuple #[.agg RZ, .int .u64 (nx' : Int)]) ∧ Below x12.heap.size x12 w') := ⟨by
            have := top_v H12.out.row H12.out.ok
            rw [show ra (⟨K, 5, zr, (nx' : Int), (lm : Int)⟩ : Vt).top = RZ from HRZ.out] at this
            exact this⟩
          go_upto_region 35 with (first
            | (go_at_call 20; refine HTP.out.mono ?_; rintro e x13 ⟨rfl, hb⟩; have H13 : Box (VC x7 x13 V D fp11 ⟨K, 5, zr, (nx' : Int), (lm : Int)⟩ d' sa sc) := ⟨H12.out.below hb⟩; clear hb)
            | (refine atAlloc _ ?_; refine wpList_run rfl _ _ (exec_alloc 36 rfl _ zeroR) ?_)
            | (refine atStore _ ?_; refine wpList_newRow x13 (ra zr) RZ HRI.out.1 HRI.out.2.1 HRI.out.2.2.1 rfl _ _ rfl rfl rfl rfl ?_; intro x14 h14 hb14; have H14 : Box (VC x7 x14 V D fp11 ⟨K, 5, zr, (nx' : Int), (lm : Int)⟩ d' sa sc) := ⟨H13.out.below hb14⟩; clear h14 hb14))
          clear HTP H12 H13
          have HPE : Box (Calls Tryz.prog 21 #[.pointer (some ⟨D, 0, none⟩)] x14 fun e w' => e = .returned (.int .i64 (pn : Int)) ∧ x14 = w') := ⟨by
            have := Disk.pending_cx H14.out.cx
            rw [huw] at this
            exact this⟩
          have HW : Box (Below w.heap.size w x14) := ⟨(HX.out x14 (below_to H7a.out.2 H14.out.cx.bel)).2.2.2.2⟩
          have hNN18 := HNB2.out
          have hQ4 := HQ.out
          by_cases hqn : q < NN
          · rw [if_pos hqn] at hnx' her hpn
            subst hnx' her hpn
            have hdq : decide ((q : Int) < (NN : Int)) = true := by simp; omega
            clear hNN18 hQ4 huw hNN
            go_wp2_with (go_at_call 21; refine HPE.out.mono ?_; rintro e x15 ⟨rfl, rfl⟩)
            go_ret
            exact ⟨rfl, HW.out⟩
          · rw [if_neg hqn] at hnx' her hpn
            subst her hpn
            have hdq : decide ((q : Int) < (NN : Int)) = false := by simp; omega
            have hwx : IntKind.u64.wrap ((fr : Int) + (NN : Int)) = (nx' : Int) := by rw [IntKind.wrap_u64]; omega
            have hwm : IntKind.i64.wrap (NN : Int) = (NN : Int) := by rw [IntKind.wrap_i64]; omega
            clear hNN18 hQ4 huw hNN hnx'
            go_wp2_with (go_at_call 21; refine HPE.out.mono ?_; rintro e x15 ⟨rfl, rfl⟩)
            go_ret
            exact ⟨rfl, HW.out⟩
end Go.Proofs.YthbbijaikcmaeaaGreatDoor
