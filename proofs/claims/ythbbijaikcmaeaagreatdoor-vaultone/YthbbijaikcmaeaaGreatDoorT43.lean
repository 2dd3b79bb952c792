/-
  VaultOne: a block below one node that was tampered with, however, is read as it was, or not at all, unless two rows of bytes that have one digest are shown.
-/
import Derived.BigQuiet
import Derived.Test.YthbbijaikcmaeaaGreatDoorT42
namespace Go.Proofs.YthbbijaikcmaeaaGreatDoor
set_option maxRecDepth 100000
set_option linter.unusedVariables false
set_option maxRecDepth 100000
open Go.RowKit Go.Shelf Plain Go.Proofs.YthbbijaikcmaeaaGreatDoor.Shap.Plain
attribute [local go_sem] Oper.semAt_some
def slN : Value → Nat
  | .slice _ n _ => n
  | _ => 0
set_option maxHeartbeats 16000000 in
theorem vaultOne_core (K : List Int) (hK : K.length = 32 ∧ Byt K) (a : Option Addr) (la ca : Nat) (LA : List Int) (b : Option Addr) (lb cb : Nat) (LB : List Int) (wh : Nat) (hwh : wh < 256) (w : World) (hT : Dig.Tabs w) (hT2 : Seal.Tab w) (hA : Bytes w a la LA) (h1 : la ≤ ca ∧ ca ≤ maxLen) (hB : Bytes w b lb LB) (h2 : lb ≤ 140737488351232) :
    Calls Tryz.prog 4 #[.agg (u8s K), .slice a la ca, .slice b lb cb, .int .u8 (wh : Int)] w fun e w' => e = .returned (.bool true) ∧ Below w.heap.size w w' := by
  obtain ⟨S, hS⟩ : ∃ S, w.heap.size = S := ⟨_, rfl⟩
  obtain ⟨AK, HAK⟩ : ∃ A, Box (u8s K = A) := ⟨_, ⟨rfl⟩⟩
  rw [HAK.out]
  obtain ⟨RZ, HRZ⟩ : ∃ A, Box (ra zr = A) := ⟨_, ⟨rfl⟩⟩
  obtain ⟨w1, hw1⟩ : ∃ w1, w.alloc (.cells AK 23) = w1 := ⟨_, rfl⟩
  have hb1 : Below w.heap.size w w1 := by rw [← hw1]; exact (Below.refl _ _).alloc (Nat.le_refl _) _
  have r1 : w1.heap[S]? = some (.cells AK 23 (0, 0)) := by rw [← hw1]; exact al_at hS
  have HAW : Box (Calls Tryz.prog 7 #[] w1 fun e w' => e = .returned (.bool true) ∧ Below w1.heap.size w1 w') := ⟨awake_v w1 (hT.below hb1) (hT2.below hb1)⟩
  have HX : Box (∀ x, Below w1.heap.size w1 x → x.rangeAt S 0 (K.map (Value.int .u8)) ∧ Dig.Tabs x ∧ Seal.Tab x ∧ Bytes x a la LA ∧ Bytes x b lb LB ∧ Below w.heap.size w x) := ⟨fun x hx => ⟨fun j q hq => by
    rw [cell_of_row _ _ _ _ _ _ ((hx.block S (Array.getElem?_eq_some_iff.1 r1).1).trans r1), Nat.zero_add, ← HAK.out]
    simpa [u8s] using hq, hT.below (below_to hb1 hx), hT2.below (below_to hb1 hx), hA.below (below_to hb1 hx), hB.below (below_to hb1 hx), below_to hb1 hx⟩⟩
  have HKI : Box ((Tryz.prog.info? 23).map (·.size) = some (K.map (Value.int .u8)).length ∧ (K.map (Value.int .u8)).toArray = AK ∧ K.length = 32 ∧ Byt K) := ⟨by rw [List.length_map, hK.1]; exact infoSum, by rw [← HAK.out]; rfl, hK⟩
  have HS : Box (w.heap.size = S) := ⟨hS⟩
  have HLC : Box ((la ≤ ca ∧ ca ≤ maxLen) ∧ lb ≤ 140737488351232 ∧ LB.length = lb ∧ Byt LB) := ⟨h1, h2, hB.1, hB.2.1⟩
  obtain ⟨d0, hd0⟩ : ∃ d0, Disk.dk0 4 = d0 := ⟨_, rfl⟩
  have HD0 : Box (Up d0 ∧ d0.n = 4 ∧ d0.ops.length = 0 ∧ d0.uw.length = 0 ∧ (0 ≤ d0.left ∧ d0.left ≤ 9223372036854775807)) := ⟨by rw [← hd0]; exact ⟨⟨rfl, rfl⟩, rfl, rfl, rfl, by decide, by decide⟩⟩
  have HRI : Box ((Tryz.prog.info? 36).map (·.size) = some RZ.size ∧ (ra zr).size = RZ.size ∧ RZ.all (·.oneCell') = true) := ⟨by rw [← HRZ.out, size_ra okR_zr]; exact infoR, by rw [HRZ.out], by rw [← HRZ.out]; exact all_ra zr⟩
  obtain ⟨lv, hlv⟩ : ∃ lv, wh % 2 = lv := ⟨_, rfl⟩
  have HLV : Box (lv < 2) := ⟨by omega⟩
  obtain ⟨kk, hkk⟩ : ∃ k, 2 * lv = k := ⟨_, rfl⟩
  have HKK : Box (2 * lv = kk ∧ kk < 4) := ⟨hkk, by omega⟩
  have hand : bits .and .u8 (wh : Int) 1 = (lv : Int) := by rw [← hlv]; exact and1_u8 ⟨wh, hwh⟩
  clear hT hT2 hA hB hK hb1 r1 hS h1 h2 hlv hkk hwh
  go_enter Tryz.func4, Tryz.ntmps4
  go_upto_region 1 with fail
  (try simp only [HS.out])
  clear hw1
  go_upto_region 4 with (go_at_call 7; refine HAW.out.mono ?_; rintro e x1 ⟨rfl, hb⟩; have H1 : Box (Below w1.heap.size w1 x1) := ⟨hb⟩; clear hb)
  clear HAW
  obtain ⟨D, hD⟩ : ∃ D, x1.heap.size + 1 = D := ⟨_, rfl⟩
  have HD : Box (Calls Tryz.prog 8 #[.int .i64 4] x1 fun e w' => e = .returned (.tuple #[.pointer (some ⟨D, 0, none⟩), .int .i64 0]) ∧ ∃ fp, Disk.Cx x1 w' D fp d0) := ⟨by have := Disk.new_cx x1 4 ⟨by omega, by omega⟩; rw [hD, hd0] at this; exact this⟩
  clear hD hd0
  go_upto_region 5 with (go_at_call 8; refine HD.out.mono ?_; rintro e x2 ⟨rfl, fp2, hc⟩; have H2 : Box (Disk.Cx x1 x2 D fp2 d0) := ⟨hc⟩; clear hc)
  clear HD
  have HVN : Box (Calls Tryz.prog 9 #[.pointer (some ⟨D, 0, none⟩), .agg AK, .int .i64 1, .agg RZ, .int .u64 1, .int .u64 1099511627776] x2 fun e w' => ∃ V fp' sa sc, e = .returned (.tuple #[.pointer (some ⟨V, 0, none⟩), .int .i64 0]) ∧ VC x1 w' V D fp' ⟨K, 1, zr, 1, 1099511627776⟩ d0 sa sc) := ⟨by
    have hx := HX.out x1 H1.out
    have := vnew_ok H2.out K HKI.out.2.2 1 (by omega) (by omega) zr okR_zr 1 1099511627776 ⟨by omega, by omega⟩ ⟨by omega, by omega⟩ hx.2.1 hx.2.2.1 (by rw [HD0.out.2.1]; decide) (by omega) (by omega)
    rw [HAK.out, HRZ.out] at this
    exact this.mono fun e w' ⟨V, fp', sa, sc, h1, h2, _⟩ => ⟨V, fp', sa, sc, h1, h2⟩⟩
  have HRG : Box (x2.rangeAt S 0 (K.map (Value.int .u8))) := ⟨(HX.out x2 (below_to H1.out H2.out.bel)).1⟩
  go_upto_region 8 with (first
    | (refine atLoad 23 ?_; refine wpList_ldMid rfl 23 _ _ rfl Tryz.underlying23 rfl S 0 rfl (K.map (Value.int .u8)) HKI.out.1 HRG.out ?_; rw [HKI.out.2.1])
    | (refine atBuild 36 ?_; refine wpList_run rfl _ _ (exec_built 36 [] rfl [] rfl RZ (by rw [← HRZ.out]; exact built_R0)) ?_)
    | (go_at_call 9; refine HVN.out.mono ?_; rintro e x3 ⟨V, fp3, sa, sc, rfl, hc⟩; have H3 : Box (VC x1 x3 V D fp3 ⟨K, 1, zr, 1, 1099511627776⟩ d0 sa sc) := ⟨hc⟩; clear hc))
  clear HVN HRG H2
  --A
  have HIM : Box (Calls Tryz.prog 10 #[.slice (some ⟨x3.heap.size, 0, none⟩) 1 1, .bool false] (x3.alloc (.cells #[.int .u64 0, .slice a la ca] 41)) fun e w' => ∃ gI xc ba bc B, e = .returned (.slice (some ⟨gI, 0, none⟩) 1 xc) ∧ Rec.OImgs w' x3.heap.size (.slice (some ⟨gI, 0, none⟩) 1 xc) [⟨0, ba, 160, bc, B⟩] ∧ B.length = 160 ∧ Byt B ∧ Below x3.heap.size x3 w') := ⟨by
    obtain ⟨y, hy⟩ : ∃ y, x3.alloc (.cells #[.int .u64 0, .slice a la ca] 41) = y := ⟨_, rfl⟩
    rw [hy]
    have hb : Below x3.heap.size x3 y := by rw [← hy]; exact (Below.refl _ _).alloc (Nat.le_refl _) _
    have hx := HX.out y (below_to H1.out (below_to H3.out.cx.bel hb))
    have hr : y.heap[x3.heap.size]? = some (.cells #[.int .u64 0, .slice a la ca] 41 (0, 0)) := by rw [← hy]; exact al_at rfl
    have hI : Rec.Imgs y (some ⟨x3.heap.size, 0, none⟩) [⟨0, a, la, ca, LA⟩] := by
      refine ⟨fun _ => ⟨x3.heap.size, 0, rfl, (Array.getElem?_eq_some_iff.1 hr).1, fun i hi j v hv => ?_⟩, fun m hm => ?_⟩
      · rw [cell_of_row _ _ _ _ _ _ hr]
        simp only [List.length_cons, List.length_nil] at hi
        match i, hi with
        | 0, _ =>
          match j, hv with
          | 0, hv => simpa [Rec.imc] using hv
          | 1, hv => simpa [Rec.imc] using hv
          | j + 2, hv => simp [Rec.imc] at hv
      · rw [List.mem_singleton.1 hm]
        exact ⟨hx.2.2.2.1, ⟨Int.le_refl 0, (by decide : (0 : Int) ≤ 18446744073709551615)⟩, HLC.out.1⟩
    refine (Rec.images_any _ 1 _ false y hI (by simp)).mono ?_
    rintro e w' ⟨v, X, rfl, h⟩
    have hl : X.length = 1 := h.len
    match X, hl with
    | [⟨b0, ba, bl, bc, B⟩], _ =>
      have hr := h.im.row
      obtain ⟨xa, xc, rfl⟩ := Rec.own_form2 hr
      obtain ⟨gI, rfl, _⟩ := oimgs_form h.im (by simp)
      have hp := h.pls
      simp only [List.map_cons, List.map_nil, Rec.pl, Rec.imgP, Rec.szP] at hp
      have hp2 : b0 = 0 ∧ B = padTo LA 160 := by simpa using hp
      obtain ⟨rfl, hBe⟩ := hp2
      have hob := h.im.byt ⟨0, ba, bl, bc, B⟩ (by simp)
      have hB160 : B.length = 160 := by rw [hBe]; exact length_padTo _ _
      have hbl : bl = 160 := by have := hob.byi.1.1; simp only at this; omega
      subst hbl
      exact ⟨gI, xc, ba, bc, B, rfl, ⟨Rec.own_low2 h.im.row hb.size, fun m hm => (h.im.byt m hm).low hb.size⟩, hB160, hob.byt, below_to hb h.bel⟩⟩
  go_upto_region 9 with (first
    | (refine atBuild 41 ?_; refine wpList_run rfl _ _ (exec_built 41 [(1, .tmp 40)] rfl [(1, .slice a la ca)] rfl _ (built_Im1 _ _ _)) ?_)
    | (go_at_call 10; refine HIM.out.mono ?_; rintro e x4 ⟨gI, xc, ba, bc, B, rfl, g1, g2, g3, g4⟩; have H4 : Box (Rec.OImgs x4 x3.heap.size (.slice (some ⟨gI, 0, none⟩) 1 xc) [⟨0, ba, 160, bc, B⟩] ∧ B.length = 160 ∧ Byt B ∧ Below x3.heap.size x3 x4) := ⟨g1, g2, g3, g4⟩; clear g1 g2 g3 g4))
  clear HIM
  --B
  have HON : Box (∀ s, ∃ d1 nx R, updM (Yk K) Xd 1 (topL 1) 1099511627776 [(0, B)] d0 1 zr = (d1, nx, 0, R) ∧ Up d1 ∧ OkR R ∧ ∀ lv : Nat, lv < 2 → ∀ d3, Up d3 → (∀ q, Disk.lat d3 q = if q = 2 * lv then s else Disk.lat d1 q) →
      ((readM (Yk K) Xd 1 0 (topL 1) d3 R).2.1 = 0 ∨ (readM (Yk K) Xd 1 0 (topL 1) d3 R).2.1 = 14) ∧ ((readM (Yk K) Xd 1 0 (topL 1) d3 R).2.1 = 0 → (readM (Yk K) Xd 1 0 (topL 1) d3 R).2.2 = B ∨ (Disk.lat d1 (2 * lv) ≠ s ∧ dsha (dg (lv : Int) ((2 * lv : Nat) : Int) (Disk.lat d1 (2 * lv))) = dsha (dg (lv : Int) ((2 * lv : Nat) : Int) s)))) := ⟨fun s => one_read K B s ⟨H4.out.2.1, H4.out.2.2.1⟩ d0 HD0.out.1⟩
  obtain ⟨d1, nx1, R1, hum, hud1, hokR, -⟩ := HON.out []
  have HON2 : Box (∀ s, ∀ lv : Nat, lv < 2 → ∀ d3, Up d3 → (∀ q, Disk.lat d3 q = if q = 2 * lv then s else Disk.lat d1 q) →
      ((readM (Yk K) Xd 1 0 (topL 1) d3 R1).2.1 = 0 ∨ (readM (Yk K) Xd 1 0 (topL 1) d3 R1).2.1 = 14) ∧ ((readM (Yk K) Xd 1 0 (topL 1) d3 R1).2.1 = 0 → (readM (Yk K) Xd 1 0 (topL 1) d3 R1).2.2 = B ∨ (Disk.lat d1 (2 * lv) ≠ s ∧ dsha (dg (lv : Int) ((2 * lv : Nat) : Int) (Disk.lat d1 (2 * lv))) = dsha (dg (lv : Int) ((2 * lv : Nat) : Int) s)))) := ⟨fun s => by
    obtain ⟨d1', nx', R', e, _, _, h⟩ := HON.out s
    rw [hum] at e
    simp only [Prod.mk.injEq] at e
    obtain ⟨rfl, _, _, rfl⟩ := e
    exact h⟩
  clear HON
  have HGW : Box (Up d1 ∧ OkR R1 ∧ d1.ops.length ≤ 20000 ∧ d1.uw.length ≤ 20000 ∧ d1.n = 4) := ⟨by
    have hgw := gw_updM ⟨K, 1, zr, 1, 1099511627776⟩ H3.out.ok ([⟨0, ba, 160, bc, B⟩].map toIm) (fun m hm => by
      simp only [List.map_cons, List.map_nil, List.mem_singleton] at hm
      rw [hm]; exact H4.out.2.1) (fun m hm => by
      simp only [List.map_cons, List.map_nil, List.mem_singleton] at hm
      rw [hm]; exact Int.le_refl 0) d0
    rw [show updM (Yk (⟨K, 1, zr, 1, 1099511627776⟩ : Vt).key) Xd (⟨K, 1, zr, 1, 1099511627776⟩ : Vt).n (topL (⟨K, 1, zr, 1, 1099511627776⟩ : Vt).n) (⟨K, 1, zr, 1, 1099511627776⟩ : Vt).lim (LM ([⟨0, ba, 160, bc, B⟩].map toIm)) d0 (⟨K, 1, zr, 1, 1099511627776⟩ : Vt).nx (⟨K, 1, zr, 1, 1099511627776⟩ : Vt).top = (d1, nx1, 0, R1) from hum] at hgw
    have h0 := HD0.out
    have o1 : d1.ops.length ≤ d0.ops.length + 20000 := hgw.ops
    have o2 : d1.uw.length ≤ d0.uw.length + 20000 := hgw.uw
    exact ⟨hud1, hokR, by omega, by omega, hgw.n.trans h0.2.1⟩⟩
  obtain ⟨RA, HRA⟩ : ∃ A, Box (ra R1 = A) := ⟨_, ⟨rfl⟩⟩
  have HRAI : Box ((Tryz.prog.info? 36).map (·.size) = some RA.size ∧ (ra zr).size = RA.size ∧ RA.all (·.oneCell') = true ∧ (Tryz.prog.info? 36).map (·.size) = some (rc R1).length ∧ (rc R1).toArray = RA) := ⟨by rw [← HRA.out, size_ra HGW.out.2.1]; exact infoR, by rw [← HRA.out, size_ra HGW.out.2.1, size_ra okR_zr], by rw [← HRA.out]; exact all_ra R1, by rw [rc_len HGW.out.2.1]; exact infoR, by rw [← HRA.out]; rfl⟩
  obtain ⟨M1, hM1⟩ : ∃ M : Nat → Prop, (fun c => x3.heap.size ≤ c ∧ c < x4.heap.size) = M := ⟨_, rfl⟩
  have HM1 : Box (Mn M1 x1 x4 V fp3 ∧ ∀ c, x3.heap.size ≤ c → c < x4.heap.size → M1 c) := ⟨by
    rw [← hM1]
    refine ⟨⟨fun c hc => hc.2, fun c hc hf => ?_, fun c hc => ?_, fun c hc => ?_⟩, fun c h1 h2 => ⟨h1, h2⟩⟩
    · have := H3.out.cx.hi c hf; omega
    · have := H3.out.lt; omega
    · have := H3.out.cx.bel.size; omega⟩
  clear hM1
  have HUP : Box (Calls Tryz.prog 11 #[.pointer (some ⟨V, 0, none⟩), .slice (some ⟨gI, 0, none⟩) 1 xc] x4 fun e w' => ∃ fp', e = .returned (.tuple #[.agg RA, .int .i64 0]) ∧ VC x1 w' V D fp' ⟨K, 1, zr, nx1, 1099511627776⟩ d1 sa sc ∧ Mn M1 x1 w' V fp' ∧ ∀ c, M1 c → w'.heap[c]? = x4.heap[c]?) := ⟨by
    have hI : Imgs x4 (some ⟨gI, 0, none⟩) ([⟨0, ba, 160, bc, B⟩].map toIm) := imgs_to (Rec.OImgs.imgs (c := xc) H4.out.1)
    have hV := H3.out.lt
    have hbk : ∀ m ∈ ([⟨0, ba, 160, bc, B⟩] : List Rec.Im).map toIm, ∀ ad, m.ba = some ad → ¬ fp3 ad.block ∧ ad.block ≠ V := fun m hm ad e => by
      obtain ⟨y, hy, rfl⟩ := List.mem_map.1 hm
      have h := oim_blk (H4.out.1.byt y hy) ad e
      exact ⟨fun hf => by have := H3.out.cx.hi _ hf; omega, by omega⟩
    have := update_v (H3.out.below H4.out.2.2.2) (some ⟨gI, 0, none⟩) xc ([⟨0, ba, 160, bc, B⟩].map toIm) hI (by simp) hbk (by show (1 : Int) ≤ 1; omega) HD0.out.2.2.2.2 (by rw [HD0.out.2.2.1]; omega) (by rw [HD0.out.2.2.2.1]; omega)
    rw [show updM (Yk (⟨K, 1, zr, 1, 1099511627776⟩ : Vt).key) Xd (⟨K, 1, zr, 1, 1099511627776⟩ : Vt).n (topL (⟨K, 1, zr, 1, 1099511627776⟩ : Vt).n) (⟨K, 1, zr, 1, 1099511627776⟩ : Vt).lim (LM ([⟨0, ba, 160, bc, B⟩].map toIm)) d0 (⟨K, 1, zr, 1, 1099511627776⟩ : Vt).nx (⟨K, 1, zr, 1, 1099511627776⟩ : Vt).top = (d1, nx1, 0, R1) from hum] at this
    refine this.mono ?_
    rintro e w' ⟨fp', g1, g2, g3⟩
    have hmf := HM1.out.1.fw g3
    exact ⟨fp', by rw [g1]; show Ending.returned (.tuple #[.agg (ra R1), .int .i64 0]) = _; rw [HRA.out], g2, hmf.1, hmf.2⟩⟩
  clear hum hud1 hokR
  go_upto_region 10 with (first
    | (go_at_call 11; refine HUP.out.mono ?_; rintro e x5 ⟨fp5, rfl, g1, g2, g3⟩; have H5 : Box (VC x1 x5 V D fp5 ⟨K, 1, zr, nx1, 1099511627776⟩ d1 sa sc ∧ Mn M1 x1 x5 V fp5 ∧ ∀ c, M1 c → x5.heap[c]? = x4.heap[c]?) := ⟨g1, g2, g3⟩; clear g1 g2 g3)
    | (refine atAlloc _ ?_; refine wpList_run rfl _ _ (exec_alloc 36 rfl _ zeroR) ?_)
    | (refine atStore _ ?_; refine wpList_newRow x5 (ra zr) RA HRAI.out.1 HRAI.out.2.1 HRAI.out.2.2.1 rfl _ _ rfl rfl rfl rfl ?_; intro x6 h6 hb6; have H6 : Box (x6.heap[x5.heap.size]? = some (.cells RA 36 (0, 0)) ∧ Below x5.heap.size x5 x6) := ⟨h6, hb6⟩; clear h6 hb6))
  clear HUP
  obtain ⟨S5, hS5⟩ : ∃ S5, x5.heap.size = S5 := ⟨_, rfl⟩
  (try simp only [hS5])
  have H6a : Box (VC x1 x6 V D fp5 ⟨K, 1, zr, nx1, 1099511627776⟩ d1 sa sc ∧ Mn M1 x1 x6 V fp5 ∧ x6.rangeAt S5 0 (rc R1) ∧ ∀ c, M1 c → x6.heap[c]? = x4.heap[c]?) := ⟨by
    have h5 := H5.out
    have h6 := H6.out
    refine ⟨h5.1.below h6.2, ⟨fun c hc => Nat.lt_of_lt_of_le (h5.2.1.lt c hc) h6.2.size, h5.2.1.nf, h5.2.1.nv, h5.2.1.lo⟩, fun i v hv => ?_, fun c hc => (h6.2.block c (h5.2.1.lt c hc)).trans (h5.2.2 c hc)⟩
    rw [← hS5, cell_of_row _ _ _ _ _ _ h6.1, Nat.zero_add, ← HRAI.out.2.2.2.2]
    simpa using hv⟩
  have HMX : Box (∀ c, x3.heap.size ≤ c → c < x4.heap.size → M1 c) := ⟨HM1.out.2⟩
  clear hS5 H5 H6 HM1
  have HAD : Box (Calls Tryz.prog 13 #[.pointer (some ⟨V, 0, none⟩), .agg RA, .int .u64 1099511627776] x6 fun e w' => e = .returned (.tuple #[]) ∧ VC x1 w' V D fp5 ⟨K, 1, R1, nx1, 1099511627776⟩ d1 sa sc ∧ Mn M1 x1 w' V fp5 ∧ ∀ c, M1 c → w'.heap[c]? = x4.heap[c]?) := ⟨by
    have h6 := H6a.out
    have := adopt_v h6.1 R1 HGW.out.2.1 1099511627776 ⟨by decide, by decide⟩
    rw [HRA.out] at this
    refine this.mono ?_
    rintro e w' ⟨g1, g2, g3⟩
    have hmf := h6.2.1.fw g3
    exact ⟨g1, g2, hmf.1, fun c hc => (hmf.2 c hc).trans (h6.2.2.2 c hc)⟩⟩
  go_upto_region 11 with (first
    | (refine atLoad 36 ?_; refine wpList_ldMid rfl 36 _ _ rfl Tryz.underlying36 rfl S5 0 rfl (rc R1) HRAI.out.2.2.2.1 H6a.out.2.2.1 ?_; rw [HRAI.out.2.2.2.2])
    | (go_at_call 13; refine HAD.out.mono ?_; rintro e x7 ⟨rfl, g1, g2, g3⟩; have H7 : Box (VC x1 x7 V D fp5 ⟨K, 1, R1, nx1, 1099511627776⟩ d1 sa sc ∧ Mn M1 x1 x7 V fp5 ∧ ∀ c, M1 c → x7.heap[c]? = x4.heap[c]?) := ⟨g1, g2, g3⟩; clear g1 g2 g3))
  clear HAD H6a
  --C
  have HFL : Box (Calls Tryz.prog 12 #[.pointer (some ⟨D, 0, none⟩)] x7 fun e w' => e = .returned (.int .i64 0) ∧ ∃ fp', VC x1 w' V D fp' ⟨K, 1, R1, nx1, 1099511627776⟩ (Disk.flOk d1) sa sc ∧ Mn M1 x1 w' V fp' ∧ ∀ c, M1 c → w'.heap[c]? = x4.heap[c]?) := ⟨by
    have hg := HGW.out
    have h7 := H7.out
    refine (Disk.flush_cx h7.1.cx hg.1.1 (by omega) (by omega)).mono ?_
    rintro e w' ⟨g1, fp', g2, g3⟩
    obtain ⟨fp'', v1, v2, _⟩ := h7.1.fol g2 g3 rfl
    have hmf := h7.2.1.fw (v2.wider (fun _ _ h => h.elim))
    exact ⟨g1, fp'', v1, hmf.1, fun c hc => (hmf.2 c hc).trans (h7.2.2 c hc)⟩⟩
  go_upto_region 12 with (go_at_call 12; refine HFL.out.mono ?_; rintro e x8 ⟨rfl, fp8, g1, g2, g3⟩; have H8 : Box (VC x1 x8 V D fp8 ⟨K, 1, R1, nx1, 1099511627776⟩ (Disk.flOk d1) sa sc ∧ Mn M1 x1 x8 V fp8 ∧ ∀ c, M1 c → x8.heap[c]? = x4.heap[c]?) := ⟨g1, g2, g3⟩; clear g1 g2 g3)
  clear HFL H7
  have HIG : Box (Calls Tryz.prog 16 #[.pointer (some ⟨D, 0, none⟩)] x8 fun e w' => ∃ gW, e = .returned (.slice (some ⟨gW, 0, none⟩) 4 4) ∧ Below x8.heap.size x8 w' ∧ ∀ x : World, (∀ c, x8.heap.size ≤ c → c < w'.heap.size → x.heap[c]? = w'.heap[c]?) → ∀ q, q < 4 → ∃ a c, x.cell? ⟨gW, q, none⟩ = some (.slice a 192 c) ∧ Bytes x a 192 (Disk.lat d1 q)) := ⟨by
    have := image_r H8.out.1.cx
    rw [show (Disk.flOk d1).n = 4 from HGW.out.2.2.2.2] at this
    refine this.mono ?_
    rintro e w' ⟨gW, g1, g2, g3⟩
    refine ⟨gW, g1, g2, fun x hx q hq => ?_⟩
    rw [← pl_fl d1 q]
    exact g3 x hx q hq⟩
  go_upto_region 14 with (go_at_call 16; refine HIG.out.mono ?_; rintro e x9 ⟨gW, rfl, g1, g2⟩; have H9 : Box (Below x8.heap.size x8 x9 ∧ ∀ x : World, (∀ c, x8.heap.size ≤ c → c < x9.heap.size → x.heap[c]? = x9.heap[c]?) → ∀ q, q < 4 → ∃ a c, x.cell? ⟨gW, q, none⟩ = some (.slice a 192 c) ∧ Bytes x a 192 (Disk.lat d1 q)) := ⟨g1, g2⟩; clear g1 g2)
  clear HIG
  have HB9 : Box (x9.ownsRow x9.heap.size 5 1 (.slice none 0 0) 0 (([] : List Int).map (Value.int .u8)) ∧ Bytes x9 b lb LB ∧ 0 + lb ≤ 140737488355328) := ⟨World.ownsRow_nil _ _ _ _, (HX.out x9 (below_to H1.out (below_to H8.out.1.cx.bel H9.out.1))).2.2.2.2.1, by have := HLC.out.2.1; omega⟩
  go_upto_region 15 with (at_builtin; refine wpList_appT rfl (.tmp 57) (.tmp 58) rfl x9.heap.size 0 lb cb (.slice none 0 0) [] LB b x9 rfl rfl HB9.out.1 HB9.out.2.1 HB9.out.2.2 (Below.refl _ _) (Nat.le_refl _) ?_; intro v10 x10 h10 _; have H10 : Box (x10.ownsRow x9.heap.size 5 1 v10 (0 + lb) (([] ++ LB).map (Value.int .u8)) ∧ Below x9.heap.size x9 x10 ∧ x9.heap.size ≤ x10.heap.size) := h10; clear h10)
  clear HB9
  --D
  go_loopw [18] (fun v wr => ∃ (n : Nat) (L : List Int), Box (wr.ownsRow x9.heap.size 5 1 v n (L.map (Value.int .u8)) ∧ Below x9.heap.size x9 wr ∧ x9.heap.size ≤ wr.heap.size ∧ Byt L ∧ L.length = n ∧ (n ≤ 192 ∨ n = lb) ∧ v.oneCell' = true)) (fun v _ => 192 - slN v)
  case atStart => exact ⟨lb, LB, ⟨by have := H10.out.1; rw [Nat.zero_add, List.nil_append] at this; exact this, H10.out.2.1, H10.out.2.2, HLC.out.2.2.2, HLC.out.2.2.1, .inr rfl, by obtain ⟨a', c', e⟩ := Rec.own_form2 H10.out.1; rw [e]; rfl⟩⟩
  case round =>
    clear H10
    obtain ⟨n, L, HG⟩ := hrel
    obtain ⟨sa', sc', rfl⟩ := Rec.own_form2 HG.out.1
    by_cases hlt : n < 192
    · have hlt1 : decide ((n : Int) < 192) = true := by simp; omega
      have HL2 : Box (n + 1 ≤ 140737488355328) := ⟨by omega⟩
      have HNX : Box (∀ v' w', Box (w'.ownsRow x9.heap.size 5 1 v' (n + 1) ((L ++ [0]).map (Value.int .u8)) ∧ Below x9.heap.size x9 w' ∧ x9.heap.size ≤ w'.heap.size) → w'.ownsRow x9.heap.size 5 1 v' (n + 1) ((L ++ [0]).map (Value.int .u8)) ∧ Below x9.heap.size x9 w' ∧ x9.heap.size ≤ w'.heap.size ∧ Byt (L ++ [0]) ∧ (L ++ [0]).length = n + 1 ∧ (n + 1 ≤ 192 ∨ n + 1 = lb) ∧ v'.oneCell' = true) := ⟨fun v' w' h => ⟨h.out.1, h.out.2.1, h.out.2.2, byt_app _ _ HG.out.2.2.2.1 (byt_one 0 (by omega)), by rw [List.length_append, HG.out.2.2.2.2.1]; rfl, .inl (by omega), by obtain ⟨a', c', e⟩ := Rec.own_form2 h.out.1; rw [e]; rfl⟩⟩
      go_wp2_with (at_builtin; refine Dig.wpList_app1 rfl (.tmp 63) (.tmp 64) rfl x9.heap.size n (.slice sa' n sc') L 0 x9 rfl rfl HG.out.1 HL2.out HG.out.2.1 HG.out.2.2.1 ?_; intro v11 x11 h11; have H11 : Box (x11.ownsRow x9.heap.size 5 1 v11 (n + 1) ((L ++ [0]).map (Value.int .u8)) ∧ Below x9.heap.size x9 x11 ∧ x9.heap.size ≤ x11.heap.size ∧ Byt (L ++ [0]) ∧ (L ++ [0]).length = n + 1 ∧ (n + 1 ≤ 192 ∨ n + 1 = lb) ∧ v11.oneCell' = true) := ⟨HNX.out v11 x11 ⟨h11.out⟩⟩; clear h11)
      obtain ⟨sb', sd', hv11⟩ := Rec.own_form2 H11.out.1
      subst hv11
      exact ⟨⟨n + 1, L ++ [0], H11⟩, by show 192 - (n + 1) < 192 - n; omega⟩
    · have hlt1 : decide ((n : Int) < 192) = false := by simp; omega
      --E
      have HN : Box (192 ≤ n) := ⟨by omega⟩
      obtain ⟨y1, hy1⟩ : ∃ y, y = wr := ⟨_, rfl⟩
      rw [← hy1] at HG ⊢
      clear hy1
      obtain ⟨gS, hgS, hgS1, hnc⟩ : ∃ g, sa' = some ⟨g, 0, none⟩ ∧ (x9.heap.size ≤ g ∧ g < y1.heap.size) ∧ n ≤ sc' := by
        rcases HG.out.1.2 with ⟨e, _⟩ | ⟨g', cap', cur, e, hB, hg, hn1, _⟩
        · cases e; have := HN.out; omega
        · simp only [Value.slice.injEq, true_and] at e
          exact ⟨g', e.1, ⟨hB, (Array.getElem?_eq_some_iff.1 hg).1⟩, by rw [e.2]; exact hn1⟩
      subst hgS
      obtain ⟨s, hs⟩ : ∃ s, L.take 192 = s := ⟨_, rfl⟩
      have HY1 : Box (Bytes y1 (some ⟨gS, 0, none⟩) 192 s ∧ Below x9.heap.size x9 y1 ∧ x9.heap.size ≤ gS ∧ gS < y1.heap.size ∧ Byt s ∧ s.length = 192) := ⟨by
        have hB := bytes_take (own_bytes HG.out.1 HG.out.2.2.2.1) HN.out
        rw [hs] at hB
        exact ⟨hB, HG.out.2.1, hgS1.1, hgS1.2, hB.2.1, hB.1⟩⟩
      have hsl := sliceB_hi gS n sc' HN.out hnc
      clear HG hs hgS1 hnc
      obtain ⟨G2, hG2⟩ : ∃ G, y1.heap.size = G := ⟨_, rfl⟩
      obtain ⟨y2, hy2⟩ : ∃ y, y1.alloc (.cells #[.int .i64 0, .int .i64 2] 3) = y := ⟨_, rfl⟩
      have HY2 : Box (Below x9.heap.size x9 y2 ∧ Bytes y2 (some ⟨gS, 0, none⟩) 192 s ∧ gS < y2.heap.size) := ⟨by
        have hb : Below y1.heap.size y1 y2 := by rw [← hy2]; exact (Below.refl _ _).alloc (Nat.le_refl _) _
        exact ⟨below_to HY1.out.2.1 hb, HY1.out.1.below hb, Nat.lt_of_lt_of_le HY1.out.2.2.2.1 hb.size⟩⟩
      have hck : y2.cell? ⟨G2, lv, none⟩ = some (.int .i64 (kk : Int)) := by
        have hr : y2.heap[G2]? = some (.cells #[.int .i64 0, .int .i64 2] 3 (0, 0)) := by rw [← hy2]; exact al_at hG2
        rw [cell_of_row _ _ _ _ _ _ hr]
        have h1 := HLV.out
        have h2 := HKK.out.1
        match lv, h1 with
        | 0, _ => subst h2; rfl
        | 1, _ => subst h2; rfl
      have hlv2 : lv < 2 := HLV.out
      --F
      go_upto_region 18 with fail
      (try simp only [hG2, hy2])
      clear hG2 hy2 hck hlt1
      --G
      have HB2 : Box (Below x8.heap.size x8 y2) := ⟨below_to H9.out.1 HY2.out.1⟩
      obtain ⟨M5, hM5⟩ : ∃ M : Nat → Prop, (fun c => M1 c ∨ x8.heap.size ≤ c ∧ c < y2.heap.size) = M := ⟨_, rfl⟩
      have HM5 : Box (Mn M5 x1 y2 V fp8 ∧ (∀ c, M1 c → M5 c) ∧ (∀ c, x8.heap.size ≤ c → c < y2.heap.size → M5 c) ∧ (∀ c, M1 c → y2.heap[c]? = x4.heap[c]?)) := ⟨by
        have h8 := H8.out
        rw [← hM5]
        exact ⟨h8.2.1.below HB2.out h8.1.cx.hi h8.1.lt h8.1.cx.bel.size, fun c hc => .inl hc, fun c h1 h2 => .inr ⟨h1, h2⟩, fun c hc => (HB2.out.block c (h8.2.1.lt c hc)).trans (h8.2.2 c hc)⟩⟩
      clear hM5
      obtain ⟨d3, hd3⟩ : ∃ d, Disk.tpOk (Disk.flOk d1) kk s = d := ⟨_, rfl⟩
      have HD3 : Box (Up d3 ∧ (∀ q, Disk.lat d3 q = if q = 2 * lv then s else Disk.lat d1 q) ∧ d3.ops.length ≤ 20001 ∧ d3.uw.length = 0) := ⟨by
        have hg := HGW.out
        rw [← hd3]
        refine ⟨hg.1, fun q => by rw [HKK.out.1]; exact lat_tp d1 kk s q, ?_, rfl⟩
        show (d1.ops ++ [(3, 0)]).length ≤ 20001
        simp; omega⟩
      have HTM : Box (Calls Tryz.prog 17 #[.pointer (some ⟨D, 0, none⟩), .int .i64 (kk : Int), .slice (some ⟨gS, 0, none⟩) 192 sc'] y2 fun e w' => e = .returned (.int .i64 0) ∧ ∃ fp', VC x1 w' V D fp' ⟨K, 1, R1, nx1, 1099511627776⟩ d3 sa sc ∧ Mn M5 x1 w' V fp' ∧ ∀ c, M5 c → w'.heap[c]? = y2.heap[c]?) := ⟨by
        have h8 := H8.out.1.below HB2.out
        have hgs := HY1.out.2.2.1
        have hx89 := H9.out.1.size
        refine (tamper_cx h8.cx kk (some ⟨gS, 0, none⟩) sc' s HY2.out.2.1 (fun ad e hf => by cases e; have := H8.out.1.cx.hi _ hf; simp only at this; omega) (by show kk < d1.n; rw [HGW.out.2.2.2.2]; exact HKK.out.2) (by show (0 : Nat) < 1000000; omega)).mono ?_
        rintro e w' ⟨g1, fp', g2, g3⟩
        rw [hd3] at g2
        obtain ⟨fp'', v1, v2, _⟩ := h8.fol g2 g3 (by rw [← hd3]; rfl)
        have hmf := HM5.out.1.fw (v2.wider (fun _ _ h => h.elim))
        exact ⟨g1, fp'', v1, hmf.1, hmf.2⟩⟩
      clear hd3
      go_upto_region 19 with (go_at_call 17; refine HTM.out.mono ?_; rintro e x11 ⟨rfl, fp11, g1, g2, g3⟩; have H11 : Box (VC x1 x11 V D fp11 ⟨K, 1, R1, nx1, 1099511627776⟩ d3 sa sc ∧ Mn M5 x1 x11 V fp11 ∧ ∀ c, M5 c → x11.heap[c]? = y2.heap[c]?) := ⟨g1, g2, g3⟩; clear g1 g2 g3)
      clear HTM
      obtain ⟨⟨d4, er, bs⟩, hq⟩ : ∃ q, readM (Yk K) Xd 1 0 (topL 1) d3 R1 = q := ⟨_, rfl⟩
      have HER : Box ((er = 0 ∨ er = 14) ∧ (er = 0 → bs = B ∨ (Disk.lat d1 kk ≠ s ∧ dsha (dg (lv : Int) (kk : Int) (Disk.lat d1 kk)) = dsha (dg (lv : Int) (kk : Int) s)))) := ⟨by
        have := HON2.out s lv HLV.out d3 HD3.out.1 HD3.out.2.1
        rw [hq, HKK.out.1] at this
        exact this⟩
      have HRD : Box (Calls Tryz.prog 18 #[.pointer (some ⟨V, 0, none⟩), .int .u64 0] x11 fun e w' => ∃ ad, e = .returned (.tuple #[.slice ad bs.length bs.length, .int .i64 er]) ∧ Bytes w' ad bs.length bs ∧ Below x1.heap.size x1 w' ∧ (∀ c, M5 c → w'.heap[c]? = y2.heap[c]?) ∧ y2.heap.size ≤ w'.heap.size) := ⟨by
        have h11 := H11.out
        have hd := HD3.out
        have := read_ok h11.1 0 (by show (0 : Nat) < 1; omega) (by omega) (by omega)
        rw [show readM (Yk (⟨K, 1, R1, nx1, 1099511627776⟩ : Vt).key) Xd (⟨K, 1, R1, nx1, 1099511627776⟩ : Vt).n 0 (topL (⟨K, 1, R1, nx1, 1099511627776⟩ : Vt).n) d3 (⟨K, 1, R1, nx1, 1099511627776⟩ : Vt).top = (d4, er, bs) from hq] at this
        refine this.mono ?_
        rintro e w' ⟨fp', ad, q1, q2, q3, q4⟩
        have hmf := h11.2.1.fw (q2.wider (fun _ _ h => h.elim))
        have hz : y2.heap.size ≤ x11.heap.size := by
          by_cases h : y2.heap.size ≤ x11.heap.size
          · exact h
          · exfalso
            have hl : x11.heap.size < y2.heap.size := by omega
            have h8 : x8.heap.size ≤ x11.heap.size := by
              by_cases h8 : x8.heap.size ≤ x11.heap.size
              · exact h8
              · have := h11.2.1.lt gS (HM5.out.2.2.1 gS (by have := HY1.out.2.2.1; have := H9.out.1.size; omega) HY2.out.2.2)
                have := HY1.out.2.2.1; have := H9.out.1.size; omega
            have := h11.2.1.lt x11.heap.size (HM5.out.2.2.1 _ h8 hl)
            omega
        exact ⟨ad, q3, q4, q1.cx.bel, fun c hc => (hmf.2 c hc).trans (h11.2.2 c hc), Nat.le_trans hz q2.size⟩⟩
      clear hq
      go_upto_region 20 with (go_at_call 18; refine HRD.out.mono ?_; rintro e x12 ⟨ad, rfl, g1, g2, g3, g4⟩; have H12 : Box (Bytes x12 ad bs.length bs ∧ Below x1.heap.size x1 x12 ∧ (∀ c, M5 c → x12.heap[c]? = y2.heap[c]?) ∧ y2.heap.size ≤ x12.heap.size) := ⟨g1, g2, g3, g4⟩; clear g1 g2 g3 g4)
      clear HRD H11
      have HWW : Box (∀ x, Below x12.heap.size x12 x → Below w.heap.size w x) := ⟨fun x hx => (HX.out x (below_to H1.out (below_to H12.out.2.1 hx))).2.2.2.2.2⟩
      --H
      by_cases her : er = 14
      · subst her
        go_upto_region 22 with fail
        go_quiet (fail)
        go_wp2
        go_ret
        exact ⟨rfl, HWW.out _ (below_drewN (Below.refl _ _) _)⟩
      have her0 : er = 0 := by rcases HER.out.1 with h | h; exact h; exact absurd h her
      subst her0
      clear her
      have HOI : Box (∀ x, Below x12.heap.size x12 x → Rec.OImgs x x3.heap.size (.slice (some ⟨gI, 0, none⟩) 1 xc) [⟨0, ba, 160, bc, B⟩]) := ⟨fun x hx => by
        refine oimgs_keep H4.out.1 (fun i h1 h2 => ?_)
        have hm := HMX.out i h1 h2
        have h5 := HM5.out.2.1 i hm
        exact (hx.block i (by have := HM5.out.1.lt i h5; have := H12.out.2.2.2; omega)).trans ((H12.out.2.2.1 i h5).trans (HM5.out.2.2.2 i hm))⟩
      have HC0 : Box (∀ x, Below x12.heap.size x12 x → Bytes x ad bs.length bs ∧ x.cell? ⟨gI, 0 + 0 * 2 + 1, none⟩ = some (.slice ba 160 bc) ∧ Bytes x ba 160 B ∧ Byt bs) := ⟨fun x hx => by
        have ho := HOI.out x hx
        have hI : Rec.Imgs x (some ⟨gI, 0, none⟩) [⟨0, ba, 160, bc, B⟩] := Rec.OImgs.imgs (c := xc) ho
        obtain ⟨b', o', e', hlt', hr'⟩ := hI.tb (by simp)
        cases e'
        have hr := hr' 0 (by simp)
        exact ⟨H12.out.1.below hx, hr 1 _ rfl, (ho.byt ⟨0, ba, 160, bc, B⟩ (by simp)).byi.1, H12.out.1.2.1⟩⟩
      go_upto_region 22 with fail
      by_cases hbs : bs = B
      · have HBS : Box (bs = B) := ⟨hbs⟩
        clear hbs
        refine Disk.begin_keep (S := fun x => Below x12.heap.size x12 x) (by kernel_rfl) (fun wd hwd => ?_)
        have hS : Below x12.heap.size x12 wd := by rw [hwd]; exact (Below.refl _ _).drew
        clear hwd
        refine take_s (i := 0) (v := ?_) rfl (by kernel_rfl) (by kernel_rfl) (by kernel_rfl) (fun _ _ _ h => h) (by rfl) ?_ hS ?_
        rotate_left
        · intro w' hLat; clear hLat; go_simp <;> with_reducible rfl
        try simp only [Act.put, List.setIfInBounds_toArray, List.set_cons_zero, List.set_cons_succ, List.getElem_toArray, List.getElem_cons_zero]
        refine take_s (i := 1) (v := ?_) rfl (by kernel_rfl) (by kernel_rfl) (by kernel_rfl) (fun _ _ _ h => h) (by rfl) ?_ hS ?_
        rotate_left
        · intro w' hLat; clear hLat; go_simp <;> with_reducible rfl
        try simp only [Act.put, List.setIfInBounds_toArray, List.set_cons_zero, List.set_cons_succ, List.getElem_toArray, List.getElem_cons_zero, List.getElem_cons_succ]
        refine take_s (i := 2) (v := ?_) rfl (by kernel_rfl) (by kernel_rfl) (by kernel_rfl) (fun _ _ _ h => h) (by rfl) ?_ hS ?_
        rotate_left
        · intro w' hLat; clear hLat; go_simp <;> with_reducible rfl
        try simp only [Act.put, List.setIfInBounds_toArray, List.set_cons_zero, List.set_cons_succ, List.getElem_toArray, List.getElem_cons_zero, List.getElem_cons_succ]
        refine take_s (i := 3) (v := ?_) rfl (by kernel_rfl) (by kernel_rfl) (by kernel_rfl) (fun _ _ _ h => h) (by rfl) ?_ hS ?_
        rotate_left
        · intro w' hLat; clear hLat; go_simp <;> with_reducible rfl
        try simp only [Act.put, List.setIfInBounds_toArray, List.set_cons_zero, List.set_cons_succ, List.getElem_toArray, List.getElem_cons_zero, List.getElem_cons_succ]
        refine take_s (i := 4) (v := .string (strOfNums bs)) rfl (by kernel_rfl) (by kernel_rfl) (by kernel_rfl) (fun _ _ _ h => h) (by rfl) (fun w' hLat => exec_convG _ rfl rfl (HC0.out w' hLat).1) hS ?_
        try simp only [Act.put, List.setIfInBounds_toArray, List.set_cons_zero, List.set_cons_succ, List.getElem_toArray, List.getElem_cons_zero, List.getElem_cons_succ]
        refine take_s (i := 5) (v := ?_) rfl (by kernel_rfl) (by kernel_rfl) (by kernel_rfl) (fun _ _ _ h => h) (by rfl) ?_ hS ?_
        rotate_left
        · intro w' hLat; clear hLat; go_simp <;> with_reducible rfl
        try simp only [Act.put, List.setIfInBounds_toArray, List.set_cons_zero, List.set_cons_succ, List.getElem_toArray, List.getElem_cons_zero, List.getElem_cons_succ]
        refine take_s (i := 6) (v := .pointer (some ⟨gI, 0 + 0 * 2, none⟩)) rfl (by kernel_rfl) (by kernel_rfl) (by kernel_rfl) (fun _ _ _ h => h) (by rfl) (fun w' hLat => exec_idxIm _ _ rfl gI 0 1 xc 0 rfl rfl (by omega)) hS ?_
        try simp only [Act.put, List.setIfInBounds_toArray, List.set_cons_zero, List.set_cons_succ, List.getElem_toArray, List.getElem_cons_zero, List.getElem_cons_succ]
        refine take_s (i := 7) (v := ?_) rfl (by kernel_rfl) (by kernel_rfl) (by kernel_rfl) (fun _ _ _ h => h) (by rfl) ?_ hS ?_
        rotate_left
        · intro w' hLat; clear hLat; go_simp <;> with_reducible rfl
        try simp only [Act.put, List.setIfInBounds_toArray, List.set_cons_zero, List.set_cons_succ, List.getElem_toArray, List.getElem_cons_zero, List.getElem_cons_succ]
        refine take_s (i := 8) (v := .slice ba 160 bc) rfl (by kernel_rfl) (by kernel_rfl) (by kernel_rfl) (fun _ _ _ h => h) (by rfl) (fun w' hLat => Disk.exec_load1 38 _ _ rfl Tryz.underlying38 rfl _ rfl _ (by have h9 := (HC0.out w' hLat).2.1; simpa using h9)) hS ?_
        try simp only [Act.put, List.setIfInBounds_toArray, List.set_cons_zero, List.set_cons_succ, List.getElem_toArray, List.getElem_cons_zero, List.getElem_cons_succ]
        refine take_s (i := 9) (v := .string (strOfNums B)) rfl (by kernel_rfl) (by kernel_rfl) (by kernel_rfl) (fun _ _ _ h => h) (by rfl) (fun w' hLat => exec_convG _ rfl rfl (HC0.out w' hLat).2.2.1) hS ?_
        try simp only [Act.put, List.setIfInBounds_toArray, List.set_cons_zero, List.set_cons_succ, List.getElem_toArray, List.getElem_cons_zero, List.getElem_cons_succ]
        refine take_s (i := 10) (v := .bool true) rfl (by kernel_rfl) (by kernel_rfl) (by kernel_rfl) (fun _ _ _ h => h) (by rfl) (fun w' hLat => exec_strEq _ _ _ rfl bs (HC0.out w' hLat).2.2.2 rfl (by rw [HBS.out]; rfl)) hS ?_
        try simp only [Act.put, List.setIfInBounds_toArray, List.set_cons_zero, List.set_cons_succ, List.getElem_toArray, List.getElem_cons_zero, List.getElem_cons_succ]
        refine take_s (i := 11) (v := ?_) rfl (by kernel_rfl) (by kernel_rfl) (by kernel_rfl) (fun _ _ _ h => h) (by rfl) ?_ hS ?_
        rotate_left
        · intro w' hLat; clear hLat; go_simp <;> with_reducible rfl
        try simp only [Act.put, List.setIfInBounds_toArray, List.set_cons_zero, List.set_cons_succ, List.getElem_toArray, List.getElem_cons_zero, List.getElem_cons_succ]
        refine wpAnyH_done (by kernel_rfl) ?_ _
        have HF : Box (Below w.heap.size w wd) := ⟨HWW.out wd hS⟩
        clear hS
        go_wp2
        go_ret
        exact ⟨rfl, HF.out⟩
      have HBS : Box (bs ≠ B ∧ Byt B) := ⟨hbs, H4.out.2.2.1⟩
      have HCO : Box (Disk.lat d1 kk ≠ s ∧ dsha (dg (lv : Int) (kk : Int) (Disk.lat d1 kk)) = dsha (dg (lv : Int) (kk : Int) s)) := ⟨(HER.out.2 rfl).resolve_left hbs⟩
      clear hbs
      refine Disk.begin_keep (S := fun x => Below x12.heap.size x12 x) (by kernel_rfl) (fun wd hwd => ?_)
      have hS : Below x12.heap.size x12 wd := by rw [hwd]; exact (Below.refl _ _).drew
      clear hwd
      refine take_s (i := 0) (v := ?_) rfl (by kernel_rfl) (by kernel_rfl) (by kernel_rfl) (fun _ _ _ h => h) (by rfl) ?_ hS ?_
      rotate_left
      · intro w' hLat; clear hLat; go_simp <;> with_reducible rfl
      try simp only [Act.put, List.setIfInBounds_toArray, List.set_cons_zero, List.set_cons_succ, List.getElem_toArray, List.getElem_cons_zero]
      refine take_s (i := 1) (v := ?_) rfl (by kernel_rfl) (by kernel_rfl) (by kernel_rfl) (fun _ _ _ h => h) (by rfl) ?_ hS ?_
      rotate_left
      · intro w' hLat; clear hLat; go_simp <;> with_reducible rfl
      try simp only [Act.put, List.setIfInBounds_toArray, List.set_cons_zero, List.set_cons_succ, List.getElem_toArray, List.getElem_cons_zero, List.getElem_cons_succ]
      refine take_s (i := 2) (v := ?_) rfl (by kernel_rfl) (by kernel_rfl) (by kernel_rfl) (fun _ _ _ h => h) (by rfl) ?_ hS ?_
      rotate_left
      · intro w' hLat; clear hLat; go_simp <;> with_reducible rfl
      try simp only [Act.put, List.setIfInBounds_toArray, List.set_cons_zero, List.set_cons_succ, List.getElem_toArray, List.getElem_cons_zero, List.getElem_cons_succ]
      refine take_s (i := 3) (v := ?_) rfl (by kernel_rfl) (by kernel_rfl) (by kernel_rfl) (fun _ _ _ h => h) (by rfl) ?_ hS ?_
      rotate_left
      · intro w' hLat; clear hLat; go_simp <;> with_reducible rfl
      try simp only [Act.put, List.setIfInBounds_toArray, List.set_cons_zero, List.set_cons_succ, List.getElem_toArray, List.getElem_cons_zero, List.getElem_cons_succ]
      refine take_s (i := 4) (v := .string (strOfNums bs)) rfl (by kernel_rfl) (by kernel_rfl) (by kernel_rfl) (fun _ _ _ h => h) (by rfl) (fun w' hLat => exec_convG _ rfl rfl (HC0.out w' hLat).1) hS ?_
      try simp only [Act.put, List.setIfInBounds_toArray, List.set_cons_zero, List.set_cons_succ, List.getElem_toArray, List.getElem_cons_zero, List.getElem_cons_succ]
      refine take_s (i := 5) (v := ?_) rfl (by kernel_rfl) (by kernel_rfl) (by kernel_rfl) (fun _ _ _ h => h) (by rfl) ?_ hS ?_
      rotate_left
      · intro w' hLat; clear hLat; go_simp <;> with_reducible rfl
      try simp only [Act.put, List.setIfInBounds_toArray, List.set_cons_zero, List.set_cons_succ, List.getElem_toArray, List.getElem_cons_zero, List.getElem_cons_succ]
      refine take_s (i := 6) (v := .pointer (some ⟨gI, 0 + 0 * 2, none⟩)) rfl (by kernel_rfl) (by kernel_rfl) (by kernel_rfl) (fun _ _ _ h => h) (by rfl) (fun w' hLat => exec_idxIm _ _ rfl gI 0 1 xc 0 rfl rfl (by omega)) hS ?_
      try simp only [Act.put, List.setIfInBounds_toArray, List.set_cons_zero, List.set_cons_succ, List.getElem_toArray, List.getElem_cons_zero, List.getElem_cons_succ]
      refine take_s (i := 7) (v := ?_) rfl (by kernel_rfl) (by kernel_rfl) (by kernel_rfl) (fun _ _ _ h => h) (by rfl) ?_ hS ?_
      rotate_left
      · intro w' hLat; clear hLat; go_simp <;> with_reducible rfl
      try simp only [Act.put, List.setIfInBounds_toArray, List.set_cons_zero, List.set_cons_succ, List.getElem_toArray, List.getElem_cons_zero, List.getElem_cons_succ]
      refine take_s (i := 8) (v := .slice ba 160 bc) rfl (by kernel_rfl) (by kernel_rfl) (by kernel_rfl) (fun _ _ _ h => h) (by rfl) (fun w' hLat => Disk.exec_load1 38 _ _ rfl Tryz.underlying38 rfl _ rfl _ (by have h9 := (HC0.out w' hLat).2.1; simpa using h9)) hS ?_
      try simp only [Act.put, List.setIfInBounds_toArray, List.set_cons_zero, List.set_cons_succ, List.getElem_toArray, List.getElem_cons_zero, List.getElem_cons_succ]
      refine take_s (i := 9) (v := .string (strOfNums B)) rfl (by kernel_rfl) (by kernel_rfl) (by kernel_rfl) (fun _ _ _ h => h) (by rfl) (fun w' hLat => exec_convG _ rfl rfl (HC0.out w' hLat).2.2.1) hS ?_
      try simp only [Act.put, List.setIfInBounds_toArray, List.set_cons_zero, List.set_cons_succ, List.getElem_toArray, List.getElem_cons_zero, List.getElem_cons_succ]
      refine take_s (i := 10) (v := .bool false) rfl (by kernel_rfl) (by kernel_rfl) (by kernel_rfl) (fun _ _ _ h => h) (by rfl) (fun w' hLat => exec_strEf _ _ _ rfl bs B (HC0.out w' hLat).2.2.2 HBS.out.2 HBS.out.1 rfl rfl) hS ?_
      try simp only [Act.put, List.setIfInBounds_toArray, List.set_cons_zero, List.set_cons_succ, List.getElem_toArray, List.getElem_cons_zero, List.getElem_cons_succ]
      refine take_s (i := 11) (v := ?_) rfl (by kernel_rfl) (by kernel_rfl) (by kernel_rfl) (fun _ _ _ h => h) (by rfl) ?_ hS ?_
      rotate_left
      · intro w' hLat; clear hLat; go_simp <;> with_reducible rfl
      try simp only [Act.put, List.setIfInBounds_toArray, List.set_cons_zero, List.set_cons_succ, List.getElem_toArray, List.getElem_cons_zero, List.getElem_cons_succ]
      refine wpAnyH_done (by kernel_rfl) ?_ _
      have HS12 : Box (Below x12.heap.size x12 wd) := ⟨hS⟩
      clear hS
      --I
      obtain ⟨Sk, hSk⟩ : ∃ S, Disk.lat d1 kk = S := ⟨_, rfl⟩
      rw [hSk] at HCO
      obtain ⟨Pb, hPb⟩ : ∃ P : List Int, [(lv : Int), (kk : Int), 0, 0, 0] = P := ⟨_, rfl⟩
      have HPB : Box (Pb.length = 5 ∧ Byt Pb ∧ u8s Pb = #[.int .u8 (lv : Int), .int .u8 (kk : Int), .int .u8 0, .int .u8 0, .int .u8 0] ∧ (∀ S, dg (lv : Int) (kk : Int) S = Pb ++ S)) := ⟨by
        have h1 := HLV.out
        have h2 := HKK.out.1
        rw [← hPb]
        refine ⟨rfl, ?_, rfl, fun S => ?_⟩
        · exact byt_cons _ _ (by omega) (byt_cons _ _ (by omega) (byt_cons _ _ (by omega) (byt_cons _ _ (by omega) (byt_cons _ _ (by omega) byt_nil))))
        · have h3 : lv = 0 ∨ lv = 1 := by omega
          rcases h3 with rfl | rfl
          · subst h2; exact (dg_lv S).1
          · subst h2; exact (dg_lv S).2⟩
      clear hPb
      have HSM : Box (∀ c, x8.heap.size ≤ c → c < y2.heap.size → wd.heap[c]? = y2.heap[c]?) := ⟨fun c h1 h2 => (HS12.out.block c (by have := H12.out.2.2.2; omega)).trans (H12.out.2.2.1 c (HM5.out.2.2.1 c h1 h2))⟩
      have HIW : Box (∃ a c, wd.cell? ⟨gW, kk, none⟩ = some (.slice a 192 c) ∧ Bytes wd a 192 Sk) := ⟨by
        have h := H9.out.2 wd (fun c h1 h2 => (HSM.out c h1 (by have := HY2.out.1.size; omega)).trans (HY2.out.1.block c h2)) kk HKK.out.2
        rw [hSk] at h
        exact h⟩
      clear hSk
      obtain ⟨aW, cW, hcw, hBw⟩ := HIW.out
      have HBS2 : Box (Bytes wd (some ⟨gS, 0, none⟩) 192 s) := ⟨bytes_same HY2.out.2.1 (fun ad e => by cases e; exact HSM.out gS (by have := HY1.out.2.2.1; have := H9.out.1.size; omega) HY2.out.2.2) (by have := H12.out.2.2.2; have := HS12.out.size; omega)⟩
      have hwk : IntKind.u8.wrap (kk : Int) = (kk : Int) := by rw [IntKind.wrap_u8]; have := HKK.out.2; omega
      obtain ⟨G3, hG3⟩ : ∃ G, wd.heap.size = G := ⟨_, rfl⟩
      obtain ⟨v1, hv1⟩ : ∃ v, wd.alloc (.cells #[.int .u8 (lv : Int), .int .u8 (kk : Int), .int .u8 0, .int .u8 0, .int .u8 0] 5) = v := ⟨_, rfl⟩
      have HV1 : Box (v1.ownsRow G3 5 1 (.slice (some ⟨G3, 0, none⟩) 5 5) 5 (Pb.map (Value.int .u8)) ∧ Bytes v1 aW 192 Sk ∧ Below G3 wd v1 ∧ G3 ≤ v1.heap.size ∧ 5 + 192 ≤ 140737488355328) := ⟨by
        have hb : Below wd.heap.size wd v1 := by rw [← hv1]; exact (Below.refl _ _).alloc (Nat.le_refl _) _
        have hr : v1.heap[G3]? = some (.cells (u8s Pb) 5 (0, 0)) := by rw [HPB.out.2.2.1, ← hv1]; exact al_at hG3
        exact ⟨own_lit5 HPB.out.1 hr (Nat.le_refl _) (by decide), hBw.below hb, by rw [← hG3]; exact hb, by rw [← hG3]; exact hb.size, by decide⟩⟩
      have hcw1 : v1.cell? ⟨gW, kk, none⟩ = some (.slice aW 192 cW) := by
        have hb : Below wd.heap.size wd v1 := by rw [← hv1]; exact (Below.refl _ _).alloc (Nat.le_refl _) _
        exact (hb.cell (p := ⟨gW, kk, none⟩) (cell_lt hcw)).trans hcw
      have HG3 : Box (wd.heap.size = G3) := ⟨hG3⟩
      have HKK4 : Box (kk < 4) := ⟨HKK.out.2⟩
      clear hBw hcw
      go_upto_region 25 with (first
        | (refine Rec.atIdx 37 ?_; refine wpList_run rfl _ _ (exec_idxNw _ _ rfl gW 4 4 kk rfl rfl HKK4.out) ?_)
        | (at_builtin; refine wpList_appT rfl (.tmp 107) (.tmp 111) rfl G3 5 192 cW (.slice (some ⟨G3, 0, none⟩) 5 5) Pb Sk aW wd rfl rfl HV1.out.1 HV1.out.2.1 HV1.out.2.2.2.2 HV1.out.2.2.1 HV1.out.2.2.2.1 ?_; intro p20 x20 h20 _; have H20 : Box (x20.ownsRow G3 5 1 p20 (5 + 192) ((Pb ++ Sk).map (Value.int .u8)) ∧ Below G3 wd x20 ∧ G3 ≤ x20.heap.size) := h20; clear h20))
      clear hcw1 hv1 hG3 HV1
      obtain ⟨pa, pc, hp20⟩ := Rec.own_form2 H20.out.1
      subst hp20
      have HSK : Box (Byt Sk ∧ Sk.length = 192) := ⟨(HIW.out.choose_spec.choose_spec.2).2.1, (HIW.out.choose_spec.choose_spec.2).1⟩
      obtain ⟨G4, hG4⟩ : ∃ G, x20.heap.size = G := ⟨_, rfl⟩
      have HG4 : Box (x20.heap.size = G4) := ⟨hG4⟩
      obtain ⟨v2, hv2⟩ : ∃ v, x20.alloc (.cells #[.int .u8 (lv : Int), .int .u8 (kk : Int), .int .u8 0, .int .u8 0, .int .u8 0] 5) = v := ⟨_, rfl⟩
      have HV2 : Box (v2.ownsRow G4 5 1 (.slice (some ⟨G4, 0, none⟩) 5 5) 5 (Pb.map (Value.int .u8)) ∧ Bytes v2 (some ⟨gS, 0, none⟩) 192 s ∧ Below G4 x20 v2 ∧ G4 ≤ v2.heap.size ∧ 5 + 192 ≤ 140737488355328) := ⟨by
        have hb : Below x20.heap.size x20 v2 := by rw [← hv2]; exact (Below.refl _ _).alloc (Nat.le_refl _) _
        have hr : v2.heap[G4]? = some (.cells (u8s Pb) 5 (0, 0)) := by rw [HPB.out.2.2.1, ← hv2]; exact al_at hG4
        exact ⟨own_lit5 HPB.out.1 hr (Nat.le_refl _) (by decide), (HBS2.out.below (by rw [HG3.out]; exact H20.out.2.1)).below hb, by rw [← hG4]; exact hb, by rw [← hG4]; exact hb.size, by decide⟩⟩
      go_upto_region 26 with (at_builtin; refine wpList_appT rfl (.tmp 117) (.tmp 119) rfl G4 5 192 sc' (.slice (some ⟨G4, 0, none⟩) 5 5) Pb s (some ⟨gS, 0, none⟩) x20 rfl rfl HV2.out.1 HV2.out.2.1 HV2.out.2.2.2.2 HV2.out.2.2.1 HV2.out.2.2.2.1 ?_; intro q21 x21 h21 _; have H21 : Box (x21.ownsRow G4 5 1 q21 (5 + 192) ((Pb ++ s).map (Value.int .u8)) ∧ Below G4 x20 x21 ∧ G4 ≤ x21.heap.size) := h21; clear h21)
      clear hv2 HV2 hsl hG4
      obtain ⟨qa, qc, hq21⟩ := Rec.own_form2 H21.out.1
      subst hq21
      --J
      obtain ⟨Pp, hPp⟩ : ∃ P, Pb ++ Sk = P := ⟨_, rfl⟩
      obtain ⟨Pq, hPq⟩ : ∃ P, Pb ++ s = P := ⟨_, rfl⟩
      obtain ⟨DS, hDS⟩ : ∃ D, dsha Pp = D := ⟨_, rfl⟩
      have HPP : Box (Byt Pp ∧ Byt Pq ∧ Pp ≠ Pq ∧ dsha Pp = DS ∧ dsha Pq = DS ∧ DS.length = 32) := ⟨by
        have hc := HCO.out
        rw [HPB.out.2.2.2, HPB.out.2.2.2, hPp, hPq] at hc
        refine ⟨by rw [← hPp]; exact byt_app _ _ HPB.out.2.1 HSK.out.1, by rw [← hPq]; exact byt_app _ _ HPB.out.2.1 HY1.out.2.2.2.2.1, fun e => hc.1 ?_, hDS, hc.2.symm.trans hDS, by rw [← hDS]; exact length_dsha _⟩
        rw [← hPp, ← hPq] at e
        exact List.append_cancel_left e⟩
      rw [hPp] at H20
      rw [hPq] at H21
      clear hPp hPq hDS
      have HBP : Box (∀ x, Below x21.heap.size x21 x → Bytes x pa (5 + 192) Pp ∧ Bytes x qa (5 + 192) Pq) := ⟨fun x hx => by
        have h20 := own_bytes H20.out.1 HPP.out.1
        have h21 := own_bytes H21.out.1 HPP.out.2.1
        exact ⟨(h20.below (by rw [HG4.out]; exact H21.out.2.1)).below hx, h21.below hx⟩⟩
      have HOF : Box (∀ x, Below x21.heap.size x21 x → (Calls Tryz.prog 19 #[.slice pa 197 pc] x fun e w' => e = .returned (.agg (u8s DS)) ∧ Below x.heap.size x w') ∧ (Calls Tryz.prog 19 #[.slice qa 197 qc] x fun e w' => e = .returned (.agg (u8s DS)) ∧ Below x.heap.size x w')) := ⟨fun x hx => by
        have hb := HBP.out x hx
        have h1 := Dig.rof_any pa 197 pc Pp x hb.1 (by omega)
        have h2 := Dig.rof_any qa 197 qc Pq x hb.2 (by omega)
        refine ⟨h1.mono ?_, h2.mono ?_⟩
        · rintro e w' ⟨g1, g2⟩
          refine ⟨g1.trans ?_, g2⟩
          show Ending.returned (.agg (u8s (dsha Pp))) = _
          rw [HPP.out.2.2.2.1]
        · rintro e w' ⟨g1, g2⟩
          refine ⟨g1.trans ?_, g2⟩
          show Ending.returned (.agg (u8s (dsha Pq))) = _
          rw [HPP.out.2.2.2.2.1]⟩
      have HB21 : Box (Bytes x21 pa 197 Pp ∧ Bytes x21 qa 197 Pq) := ⟨HBP.out x21 (Below.refl _ _)⟩
      have HFN : Box (∀ x, Below x21.heap.size x21 x → Below w.heap.size w x) := ⟨fun x hx => HWW.out x (below_to HS12.out (below_to (by rw [HG3.out]; exact H20.out.2.1) (below_to (by rw [HG4.out]; exact H21.out.2.1) hx)))⟩
      obtain ⟨AD, HAD⟩ : ∃ A, Box (u8s DS = A) := ⟨_, ⟨rfl⟩⟩
      rw [HAD.out] at HOF
      --K
      go_wp2_with (first
        | (refine atConvT 38 9 ?_; refine wpList_runG (by rfl) _ _ (exec_convG (.tmp 121) rfl rfl HB21.out.1) ?_)
        | (refine atConvT 38 9 ?_; refine wpList_runG (by rfl) _ _ (exec_convG (.tmp 123) rfl rfl HB21.out.2) ?_)
        | (refine atBin .neq 9 ?_; refine wpList_runG (by rfl) _ _ (exec_strNt _ _ _ rfl Pp Pq HPP.out.1 HPP.out.2.1 HPP.out.2.2.1 rfl rfl) ?_)
        | (refine atBin .eql 23 ?_; refine wpList_runG (by rfl) _ _ (exec_eqSt _ _ _ rfl DS HPP.out.2.2.2.2.2 (by rw [HAD.out]; rfl) (by rw [HAD.out]; rfl)) ?_)
        | (go_at_call 19; refine ((HOF.out x22 H22.out).2).mono ?_; rintro e x23 ⟨rfl, hb⟩; have H23 : Box (Below x21.heap.size x21 x23) := ⟨below_to H22.out hb⟩; clear hb)
        | (go_at_call 19; refine ((HOF.out x21 (Below.refl _ _)).1).mono ?_; rintro e x22 ⟨rfl, hb⟩; have H22 : Box (Below x21.heap.size x21 x22) := ⟨hb⟩; clear hb))
      go_ret
      exact ⟨rfl, HFN.out x23 H23.out⟩
end Go.Proofs.YthbbijaikcmaeaaGreatDoor
