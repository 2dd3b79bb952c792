/-
  VaultTwice: of a block that is there twice the last one counts; nothing to write writes nothing; blocks that may not be are refused whole.
-/
import Derived.Test.YtmocfbglmahhjabGreatDoorT43
import Derived.Test.YtmocfbglmahhjabGreatDoorT44
import Derived.Test.YtmocfbglmahhjabGreatDoorT46
namespace Go.Proofs.YtmocfbglmahhjabGreatDoor
set_option maxRecDepth 100000
set_option linter.unusedVariables false
set_option maxRecDepth 100000
open Go.RowKit Go.Shelf Plain Go.Proofs.YtmocfbglmahhjabGreatDoor.Shap.Plain
attribute [local go_sem] Oper.semAt_some
theorem guardRf : Tryz.prog.eqGuardType Tryz.prog.depth 35 = false := by kernel_rfl
theorem exec_neRf {o : Oper} {ρ : Operand → Value} {w' : World} (x y : Operand) (ty : TypeId) (ho : o.op = .binOp .neq 35 x y ty) (r q : Rf) (hr : OkR r) (hq : OkR q) (b : Bool) (hb : (!eqR r q) = b) (hx : ρ x = .agg (ra r)) (hy : ρ y = .agg (ra q)) :
    (execOp ρ o).run Tryz.prog w' = .ok (.value (.bool b)) w' := by
  have e : (binOp .neq 35 (.agg (ra r)) (.agg (ra q))).run Tryz.prog w' = .ok (.bool b) w' := by
    rw [run_neq_struct, eq_refIn rt26 9997 hr hq, ← hb]; rfl
  unfold execOp
  simp only [ho, hx, hy, Sem.run_bind, run_eqGuard_agg w' .neq 35 x y _ _ guardRf, e, Result.andThen_ok]
  rfl
theorem exec_convG {o : Oper} {a : Act} {w' : World} {ad : Option Addr} {len cap : Nat} {L : List Int} (x : Operand) (ho : o.op = .convert 24 9 x) (hx : a.eval x = .slice ad len cap) (hB : Bytes w' ad len L) : (execOp a.eval o).run Tryz.prog w' = .ok (.value (.string (strOfNums L))) w' := Seal.exec_conv x ho hx hB
theorem exec_strEq {o : Oper} {ρ : Operand → Value} {w' : World} (x y : Operand) (ty : TypeId) (ho : o.op = .binOp .eql 9 x y ty) (A : List Int) (hA : Byt A) (hx : ρ x = .string (strOfNums A)) (hy : ρ y = .string (strOfNums A)) :
    (execOp ρ o).run Tryz.prog w' = .ok (.value (.bool true)) w' := by
  rw [Rec.exec_str x y ty ho A A hA hA hx hy, decide_eq_true rfl]
/-- Images of the law, in the words of a vault. -/
def toIm (m : Rec.Im) : Im := ⟨m.blk, m.ba, m.bl, m.bc, m.bs⟩
theorem imgs_to {w : World} {a : Option Addr} {X : List Rec.Im} (h : Rec.Imgs w a X) : Imgs w a (X.map toIm) := by
  refine ⟨fun hp => ?_, fun m hm => ?_⟩
  · obtain ⟨b, o, e, hlt, hr⟩ := h.tb (by simpa using hp)
    refine ⟨b, o, e, hlt, fun i hi => ?_⟩
    have h1 := hr i (by simpa using hi)
    rw [List.getElem_map]
    exact h1
  · obtain ⟨x, hx, rfl⟩ := List.mem_map.1 hm
    obtain ⟨h1, h2, h3, h4⟩ := h.byt x hx
    exact ⟨h1, h2.1, h2.2, Nat.le_trans h3 h4⟩
theorem oim_blk {w : World} {B : Nat} {m : Rec.Im} (h : Rec.OIm w B m) : ∀ ad, m.ba = some ad → B ≤ ad.block ∧ ad.block < w.heap.size := by
  intro ad e
  have ho := h.own
  rw [e] at ho
  rcases ho.2 with ⟨h3, _⟩ | ⟨g', cap', cur, h3, hb, hg', _⟩
  · cases h3
  · simp only [Value.slice.injEq, Option.some.injEq, true_and] at h3
    obtain ⟨rfl, _⟩ := h3
    exact ⟨hb, (Array.getElem?_eq_some_iff.1 hg').1⟩
/-- Bytes of images stay where their blocks do. -/
theorem oim_keep {w w' : World} {B : Nat} {m : Rec.Im} (h : Rec.OIm w B m) (hs : ∀ b, B ≤ b → b < w.heap.size → w'.heap[b]? = w.heap[b]?) : Rec.OIm w' B m := ⟨Rec.own_same h.own (fun k hk => hs k (Rec.own_blk h.own k hk).1 (h.own.lt k hk).2), h.byt, h.num⟩
theorem oimgs_keep {w w' : World} {B : Nat} {v : Value} {X : List Rec.Im} (h : Rec.OImgs w B v X) (hs : ∀ b, B ≤ b → b < w.heap.size → w'.heap[b]? = w.heap[b]?) : Rec.OImgs w' B v X := ⟨Rec.own_same h.row (fun k hk => hs k (Rec.own_blk h.row k hk).1 (h.row.lt k hk).2), fun m hm => oim_keep (h.byt m hm) hs⟩
theorem tw_imgs {w : World} {N q : Nat} {a b : Option Addr} {la ca lb cb : Nat} {LA LB : List Int} (hr : w.heap[N]? = some (.cells #[.int .u64 (q : Int), .slice a la ca, .int .u64 (q : Int), .slice b lb cb] 39 (0, 0))) (hq : q < 6) (hA : Bytes w a la LA) (hB : Bytes w b lb LB) (h1 : la ≤ ca ∧ ca ≤ maxLen) (h2 : lb ≤ cb ∧ cb ≤ maxLen) :
    Rec.Imgs w (some ⟨N, 0, none⟩) [⟨(q : Int), a, la, ca, LA⟩, ⟨(q : Int), b, lb, cb, LB⟩] := by
  refine ⟨fun _ => ⟨N, 0, rfl, (Array.getElem?_eq_some_iff.1 hr).1, fun i hi j v hv => ?_⟩, fun m hm => ?_⟩
  · rw [cell_of_row _ _ _ _ _ _ hr]
    simp only [List.length_cons, List.length_nil] at hi
    match i, hi with
    | 0, _ =>
      match j, hv with
      | 0, hv => simpa [Rec.imc] using hv
      | 1, hv => simpa [Rec.imc] using hv
      | j + 2, hv => simp [Rec.imc] at hv
    | 1, _ =>
      match j, hv with
      | 0, hv => simpa [Rec.imc] using hv
      | 1, hv => simpa [Rec.imc] using hv
      | j + 2, hv => simp [Rec.imc] at hv
  · simp only [List.mem_cons, List.not_mem_nil, or_false] at hm
    rcases hm with rfl | rfl
    · exact ⟨hA, ⟨by show (0 : Int) ≤ (q : Int); omega, by show (q : Int) ≤ _; omega⟩, h1⟩
    · exact ⟨hB, ⟨by show (0 : Int) ≤ (q : Int); omega, by show (q : Int) ≤ _; omega⟩, h2⟩
set_option maxHeartbeats 16000000 in
theorem vaultTwice_core (K : List Int) (hK : K.length = 32 ∧ Byt K) (a : Option Addr) (la ca : Nat) (LA : List Int) (b : Option Addr) (lb cb : Nat) (LB : List Int) (bk : Nat) (hbk : bk < 256) (short : Bool) (w : World) (hT : Dig.Tabs w) (hT2 : Seal.Tab w) (hA : Bytes w a la LA) (h1 : la ≤ ca ∧ ca ≤ maxLen) (hB : Bytes w b lb LB) (h2 : lb ≤ cb ∧ cb ≤ maxLen) :
    Calls Tryz.prog 3 #[.agg (u8s K), .slice a la ca, .slice b lb cb, .int .u8 (bk : Int), .bool short] w fun e w' => e = .returned (.bool true) ∧ Below w.heap.size w w' := by
  obtain ⟨S, hS⟩ : ∃ S, w.heap.size = S := ⟨_, rfl⟩
  obtain ⟨AK, HAK⟩ : ∃ A, Box (u8s K = A) := ⟨_, ⟨rfl⟩⟩
  rw [HAK.out]
  obtain ⟨RZ, HRZ⟩ : ∃ A, Box (ra zr = A) := ⟨_, ⟨rfl⟩⟩
  obtain ⟨w1, hw1⟩ : ∃ w1, w.alloc (.cells AK 23) = w1 := ⟨_, rfl⟩
  have hb1 : Below w.heap.size w w1 := by rw [← hw1]; exact (Below.refl _ _).alloc (Nat.le_refl _) _
  have r1 : w1.heap[S]? = some (.cells AK 23 (0, 0)) := by rw [← hw1]; exact al_at hS
  have HAW : Box (Calls Tryz.prog 4 #[] w1 fun e w' => e = .returned (.bool true) ∧ Below w1.heap.size w1 w') := ⟨awake_v w1 (hT.below hb1) (hT2.below hb1)⟩
  have HX : Box (∀ x, Below w1.heap.size w1 x → x.rangeAt S 0 (K.map (Value.int .u8)) ∧ Dig.Tabs x ∧ Seal.Tab x ∧ Bytes x a la LA ∧ Bytes x b lb LB ∧ Below w.heap.size w x) := ⟨fun x hx => ⟨fun j q hq => by
    rw [cell_of_row _ _ _ _ _ _ ((hx.block S (Array.getElem?_eq_some_iff.1 r1).1).trans r1), Nat.zero_add, ← HAK.out]
    simpa [u8s] using hq, hT.below (below_to hb1 hx), hT2.below (below_to hb1 hx), hA.below (below_to hb1 hx), hB.below (below_to hb1 hx), below_to hb1 hx⟩⟩
  have HKI : Box ((Tryz.prog.info? 23).map (·.size) = some (K.map (Value.int .u8)).length ∧ (K.map (Value.int .u8)).toArray = AK ∧ K.length = 32 ∧ Byt K) := ⟨by rw [List.length_map, hK.1]; exact infoSum, by rw [← HAK.out]; rfl, hK⟩
  have HS : Box (w.heap.size = S) := ⟨hS⟩
  have HLC : Box ((la ≤ ca ∧ ca ≤ maxLen) ∧ (lb ≤ cb ∧ cb ≤ maxLen)) := ⟨h1, h2⟩
  obtain ⟨q, hq⟩ : ∃ q, bk % 6 = q := ⟨_, rfl⟩
  have HQ : Box (q < 6) := ⟨by omega⟩
  have hwq : (bk : Int) % 6 = (q : Int) := by omega
  have hwq2 : (bk : Int).tmod 6 = (q : Int) := by rw [← hq]; rfl
  have hwu : IntKind.u64.wrap (q : Int) = (q : Int) := by rw [IntKind.wrap_u64]; omega
  -- the plain half
  obtain ⟨d0, hd0⟩ : ∃ d0, Disk.dk0 40 = d0 := ⟨_, rfl⟩
  have HD0 : Box (Up d0 ∧ d0.n = 40 ∧ d0.ops.length = 0 ∧ d0.uw.length = 0 ∧ (0 ≤ d0.left ∧ d0.left ≤ 9223372036854775807)) := ⟨by rw [← hd0]; exact ⟨⟨rfl, rfl⟩, rfl, rfl, rfl, by decide, by decide⟩⟩
  clear hT hT2 hA hB hK hb1 r1 hS h1 h2 hq
  go_enter Tryz.func3, Tryz.ntmps3
  go_upto_region 1 with fail
  (try simp only [HS.out])
  clear hw1
  go_upto_region 4 with (go_at_call 4; refine HAW.out.mono ?_; rintro e x1 ⟨rfl, hb⟩; have H1 : Box (Below w1.heap.size w1 x1) := ⟨hb⟩; clear hb)
  clear HAW
  obtain ⟨D, hD⟩ : ∃ D, x1.heap.size + 1 = D := ⟨_, rfl⟩
  have HD : Box (Calls Tryz.prog 5 #[.int .i64 40] x1 fun e w' => e = .returned (.tuple #[.pointer (some ⟨D, 0, none⟩), .int .i64 0]) ∧ ∃ fp, Disk.Cx x1 w' D fp d0) := ⟨by have := Disk.new_cx x1 40 ⟨by omega, by omega⟩; rw [hD, hd0] at this; exact this⟩
  clear hD hd0
  go_upto_region 5 with (go_at_call 5; refine HD.out.mono ?_; rintro e x2 ⟨rfl, fp2, hc⟩; have H2 : Box (Disk.Cx x1 x2 D fp2 d0) := ⟨hc⟩; clear hc)
  clear HD
  have HVN : Box (Calls Tryz.prog 6 #[.pointer (some ⟨D, 0, none⟩), .agg AK, .int .i64 6, .agg RZ, .int .u64 1, .int .u64 1099511627776] x2 fun e w' => ∃ V fp' sa sc, e = .returned (.tuple #[.pointer (some ⟨V, 0, none⟩), .int .i64 0]) ∧ VC x1 w' V D fp' ⟨K, 6, zr, 1, 1099511627776⟩ d0 sa sc) := ⟨by
    have hx := HX.out x1 H1.out
    have := vnew_ok H2.out K HKI.out.2.2 6 (by omega) (by omega) zr okR_zr 1 1099511627776 ⟨by omega, by omega⟩ ⟨by omega, by omega⟩ hx.2.1 hx.2.2.1 (by rw [HD0.out.2.1]; decide) (by omega) (by omega)
    rw [HAK.out, HRZ.out] at this
    exact this.mono fun e w' ⟨V, fp', sa, sc, h1, h2, _⟩ => ⟨V, fp', sa, sc, h1, h2⟩⟩
  have HRG : Box (x2.rangeAt S 0 (K.map (Value.int .u8))) := ⟨(HX.out x2 (below_to H1.out H2.out.bel)).1⟩
  go_upto_region 6 with (first
    | (refine atLoad 23 ?_; refine wpList_ldMid rfl 23 _ _ rfl Tryz.underlying23 rfl S 0 rfl (K.map (Value.int .u8)) HKI.out.1 HRG.out ?_; rw [HKI.out.2.1])
    | (refine atBuild 35 ?_; refine wpList_run rfl _ _ (exec_built 35 [] rfl [] rfl RZ (by rw [← HRZ.out]; exact built_R0)) ?_)
    | (go_at_call 6; refine HVN.out.mono ?_; rintro e x3 ⟨V, fp3, sa, sc, rfl, hc⟩; have H3 : Box (VC x1 x3 V D fp3 ⟨K, 6, zr, 1, 1099511627776⟩ d0 sa sc) := ⟨hc⟩; clear hc))
  clear HVN HRG
  go_upto_region 7 with fail
  clear hwq hwq2 hbk
  have HIM : Box (Calls Tryz.prog 7 #[.slice (some ⟨x3.heap.size, 0, none⟩) 2 2, .bool short] (x3.alloc (.cells #[.int .u64 (q : Int), .slice a la ca, .int .u64 (q : Int), .slice b lb cb] 39)) fun e w' => ∃ xa xc X, e = .returned (.slice xa 2 xc) ∧ Rec.OImgs w' x3.heap.size (.slice xa 2 xc) X ∧ X.length = 2 ∧ X.map Rec.pl = [((q : Int), Plain.padTo LA 160), ((q : Int), Plain.padTo LB (Rec.szP short 1))] ∧ Below x3.heap.size x3 w') := ⟨by
    obtain ⟨y, hy⟩ : ∃ y, x3.alloc (.cells #[.int .u64 (q : Int), .slice a la ca, .int .u64 (q : Int), .slice b lb cb] 39) = y := ⟨_, rfl⟩
    rw [hy]
    have hb : Below x3.heap.size x3 y := by rw [← hy]; exact (Below.refl _ _).alloc (Nat.le_refl _) _
    have hx := HX.out y (below_to H1.out (below_to H3.out.cx.bel hb))
    have hI := tw_imgs (w := y) (N := x3.heap.size) (q := q) (by rw [← hy]; exact al_at rfl) HQ.out hx.2.2.2.1 hx.2.2.2.2.1 HLC.out.1 HLC.out.2
    refine (Rec.images_any _ 2 _ short y hI (by simp)).mono ?_
    rintro e w' ⟨v, X, rfl, h⟩
    have hl : X.length = 2 := h.len
    have hr := h.im.row
    rw [hl] at hr
    obtain ⟨xa, xc, rfl⟩ := Rec.own_form2 hr
    refine ⟨xa, xc, X, rfl, ⟨Rec.own_low2 h.im.row hb.size, fun m hm => (h.im.byt m hm).low hb.size⟩, hl, ?_, below_to hb h.bel⟩
    rw [h.pls]
    simp [Rec.imgP, Rec.pl, Rec.szP]⟩
  go_upto_region 8 with (first
    | (refine atBuild 39 ?_; refine wpList_run rfl _ _ (exec_built 39 [(0, .tmp 43), (1, .tmp 44)] rfl [(0, .int .u64 (q : Int)), (1, .slice a la ca)] rfl _ (Rec.built_Im _ _ _ _)) ?_)
    | (refine atBuild 39 ?_; refine wpList_run rfl _ _ (exec_built 39 [(0, .tmp 46), (1, .tmp 47)] rfl [(0, .int .u64 (q : Int)), (1, .slice b lb cb)] rfl _ (Rec.built_Im _ _ _ _)) ?_)
    | (go_at_call 7; refine HIM.out.mono ?_; rintro e x4 ⟨xa, xc, X, rfl, g1, g2, g3, g4⟩; have H4 : Box (Rec.OImgs x4 x3.heap.size (.slice xa 2 xc) X ∧ X.length = 2 ∧ X.map Rec.pl = [((q : Int), Plain.padTo LA 160), ((q : Int), Plain.padTo LB (Rec.szP short 1))] ∧ Below x3.heap.size x3 x4) := ⟨g1, g2, g3, g4⟩; clear g1 g2 g3 g4))
  clear HIM hwu
  have HM0 : Box (∃ m0 m1 : Rec.Im, X = [m0, m1]) := ⟨by
    have hl := H4.out.2.1
    match X, hl with
    | [m0, m1], _ => exact ⟨m0, m1, rfl⟩⟩
  obtain ⟨⟨b0, ba0, bl0, bc0, bs0⟩, ⟨b1', ba1, bl1, bc1, bs1⟩, hX⟩ := HM0.out
  subst hX
  clear HM0
  have HMF : Box (b0 = (q : Int) ∧ bs0 = Plain.padTo LA 160 ∧ b1' = (q : Int) ∧ bs1 = Plain.padTo LB (Rec.szP short 1)) := ⟨by
    have h := H4.out.2.2.1
    simp only [List.map_cons, List.map_nil, Rec.pl, List.cons.injEq, Prod.mk.injEq, and_true] at h
    exact ⟨h.1.1, h.1.2, h.2.1, h.2.2⟩⟩
  have HO : Box (Rec.OIm x4 x3.heap.size ⟨b0, ba0, bl0, bc0, bs0⟩ ∧ Rec.OIm x4 x3.heap.size ⟨b1', ba1, bl1, bc1, bs1⟩) := ⟨H4.out.1.byt _ (by simp), H4.out.1.byt _ (by simp)⟩
  have HLE : Box (bl0 = 160 ∧ bl1 = Rec.szP short 1 ∧ Byt bs0 ∧ Byt bs1 ∧ bs0.length = 160 ∧ bs1.length = Rec.szP short 1) := ⟨by
    have h0 := HO.out.1.byi.1.1
    have h1 := HO.out.2.byi.1.1
    have e0 := HMF.out.2.1
    have e1 := HMF.out.2.2.2
    simp only at h0 h1
    have f0 : bs0.length = 160 := by rw [e0]; exact length_padTo _ _
    have f1 : bs1.length = Rec.szP short 1 := by rw [e1]; exact length_padTo _ _
    exact ⟨by omega, by omega, HO.out.1.byt, HO.out.2.byt, f0, f1⟩⟩
  have e160 : bl0 = 160 := HLE.out.1
  subst e160
  have eb0 : b0 = (q : Int) := HMF.out.1
  subst eb0
  have eb1 : b1' = (q : Int) := HMF.out.2.2.1
  subst eb1
  have HUN : Box (Calls Tryz.prog 8 #[.pointer (some ⟨V, 0, none⟩), .slice none 0 0] x4 fun e w' => ∃ fp', e = .returned (.tuple #[.agg RZ, .int .i64 0]) ∧ VC x1 w' V D fp' ⟨K, 6, zr, 1, 1099511627776⟩ d0 sa sc ∧ Fw (fun k => k = V) x4 w' fp3 fp') := ⟨by
    have := update_none (H3.out.below H4.out.2.2.2) none 0
    refine this.mono ?_
    rintro e w' ⟨fp', g1, g2, g3⟩
    exact ⟨fp', by rw [g1]; show Ending.returned (.tuple #[.agg (ra zr), .int .i64 0]) = _; rw [HRZ.out], g2, g3⟩⟩
  have HRI : Box ((Tryz.prog.info? 35).map (·.size) = some RZ.size ∧ (ra zr).size = RZ.size ∧ RZ.all (·.oneCell') = true ∧ (Tryz.prog.info? 35).map (·.size) = some (rc zr).length ∧ (rc zr).toArray = RZ) := ⟨by rw [← HRZ.out, size_ra okR_zr]; exact infoR, by rw [HRZ.out], by rw [← HRZ.out]; exact all_ra zr, by rw [rc_len okR_zr]; exact infoR, by rw [← HRZ.out]; rfl⟩
  go_upto_region 9 with (first
    | (go_at_call 8; refine HUN.out.mono ?_; rintro e x5 ⟨fp5, rfl, g1, g2⟩; have H5 : Box (VC x1 x5 V D fp5 ⟨K, 6, zr, 1, 1099511627776⟩ d0 sa sc ∧ Fw (fun k => k = V) x4 x5 fp3 fp5) := ⟨g1, g2⟩; clear g1 g2)
    | (refine atAlloc _ ?_; refine wpList_run rfl _ _ (exec_alloc 35 rfl _ zeroR) ?_)
    | (refine atStore _ ?_; refine wpList_newRow x5 (ra zr) RZ HRI.out.1 HRI.out.2.1 HRI.out.2.2.1 rfl _ _ rfl rfl rfl rfl ?_; intro x6 h6 hb6; have H6 : Box (x6.heap[x5.heap.size]? = some (.cells RZ 35 (0, 0)) ∧ Below x5.heap.size x5 x6) := ⟨h6, hb6⟩; clear h6 hb6))
  clear HUN
  obtain ⟨S5, hS5⟩ : ∃ S5, x5.heap.size = S5 := ⟨_, rfl⟩
  (try simp only [hS5])
  have H6a : Box (VC x1 x6 V D fp5 ⟨K, 6, zr, 1, 1099511627776⟩ d0 sa sc ∧ x6.heap[S5]? = some (.cells RZ 35 (0, 0)) ∧ ¬ fp5 S5 ∧ S5 ≠ V ∧ S5 < x6.heap.size ∧ (∀ i, x3.heap.size ≤ i → i < x4.heap.size → x6.heap[i]? = x4.heap[i]? ∧ ¬ fp5 i ∧ i ≠ V ∧ i < x6.heap.size)) := ⟨by
    have hV := H3.out.lt
    have h54 := H5.out.2.size
    have h65 := H6.out.2.size
    have hV4 : V < x4.heap.size := Nat.lt_of_lt_of_le hV H4.out.2.2.2.size
    refine ⟨H5.out.1.below H6.out.2, by rw [← hS5]; exact H6.out.1, fun h => by have := H5.out.1.cx.hi S5 h; omega, by omega, by rw [← hS5]; exact (Array.getElem?_eq_some_iff.1 H6.out.1).1, fun i h1 h2 => ?_⟩
    have n1 : ¬ fp3 i := fun h => by have := H3.out.cx.hi i h; omega
    exact ⟨(H6.out.2.block i (by omega)).trans (H5.out.2.block h2 n1 (by omega)), H5.out.2.k i h2 n1, by omega, by omega⟩⟩
  clear hS5 H5 H6
  have HIM6 : Box (Imgs x6 xa ([⟨(q : Int), ba0, 160, bc0, bs0⟩, ⟨(q : Int), ba1, bl1, bc1, bs1⟩].map toIm)) := ⟨by
    have h := oimgs_keep H4.out.1 (fun i h1 h2 => (H6a.out.2.2.2.2.2 i h1 h2).1)
    exact imgs_to (Rec.OImgs.imgs (c := xc) h)⟩
  have HBLK : Box (∀ m ∈ ([⟨(q : Int), ba0, 160, bc0, bs0⟩, ⟨(q : Int), ba1, bl1, bc1, bs1⟩] : List Rec.Im).map toIm, ∀ ad, m.ba = some ad → ¬ fp5 ad.block ∧ ad.block ≠ V) := ⟨fun m hm ad e => by
    obtain ⟨y, hy, rfl⟩ := List.mem_map.1 hm
    have h := oim_blk (H4.out.1.byt y hy) ad e
    have h2 := H6a.out.2.2.2.2.2 ad.block h.1 h.2
    exact ⟨h2.2.1, h2.2.2.1⟩⟩
  have HEQ : Box ((!eqR zr zr) = false) := ⟨by rw [(eqR_iff zr zr).2 rfl]; rfl⟩
  have HW6 : Box (∀ x, Below x6.heap.size x6 x → Below w.heap.size w x) := ⟨fun x hx => (HX.out x (below_to H1.out (below_to H6a.out.1.cx.bel hx))).2.2.2.2.2⟩
  by_cases hsh : short = true
  · subst hsh
    have HTK : Box (tk 6 (([⟨(q : Int), ba0, 160, bc0, bs0⟩, ⟨(q : Int), ba1, bl1, bc1, bs1⟩] : List Rec.Im).map toIm) = 1) := ⟨by
      have h1 : bl1 = 159 := HLE.out.2.1
      simp [tk, toIm, h1]⟩
    have HUP : Box (Calls Tryz.prog 8 #[.pointer (some ⟨V, 0, none⟩), .slice xa 2 xc] x6 fun e w' => e = .returned (.tuple #[.agg RZ, .int .i64 1]) ∧ Below x6.heap.size x6 w') := ⟨by
      have := update_no H6a.out.1 xa xc _ HIM6.out (by simp) (by rw [HTK.out]; decide)
      rw [HTK.out, HRZ.out] at this
      exact this⟩
    go_upto_region 10 with (first
      | (go_at_call 8; refine HUP.out.mono ?_; rintro e x7 ⟨rfl, hb⟩; have H7 : Box (Below x6.heap.size x6 x7) := ⟨hb⟩; clear hb)
      | (refine atAlloc _ ?_; refine wpList_run rfl _ _ (exec_alloc 35 rfl _ zeroR) ?_)
      | (refine atStore _ ?_; refine wpList_newRow x7 (ra zr) RZ HRI.out.1 HRI.out.2.1 HRI.out.2.2.1 rfl _ _ rfl rfl rfl rfl ?_; intro x8 h8 hb8; have H8 : Box (Below x6.heap.size x6 x8) := ⟨below_to H7.out hb8⟩; clear h8 hb8))
    have HR8 : Box (x8.rangeAt S5 0 (rc zr)) := ⟨fun i v hv => by
      rw [cell_of_row _ _ _ _ _ _ ((H8.out.block S5 H6a.out.2.2.2.2.1).trans H6a.out.2.1), Nat.zero_add, ← HRI.out.2.2.2.2]
      simpa using hv⟩
    have HPE : Box (Calls Tryz.prog 9 #[.pointer (some ⟨D, 0, none⟩)] x8 fun e w' => e = .returned (.int .i64 0) ∧ x8 = w') := ⟨by
      have := Disk.pending_cx (H6a.out.1.below H8.out).cx
      rw [HD0.out.2.2.2.1] at this
      exact this⟩
    go_wp2_with (first
      | (refine atLoad 35 ?_; refine wpList_runG (by rfl) _ _ (exec_load_mid 35 _ _ rfl Tryz.underlying35 rfl S5 0 rfl (rc zr) HRI.out.2.2.2.1 HR8.out) ?_; rw [HRI.out.2.2.2.2])
      | (refine atBuild 35 ?_; refine wpList_runG (by rfl) _ _ (exec_built 35 [] rfl [] rfl RZ (by rw [← HRZ.out]; exact built_R0)) ?_)
      | (refine atBin .neq 35 ?_; refine wpList_runG (by rfl) _ _ (exec_neRf _ _ _ rfl zr zr okR_zr okR_zr false HEQ.out (by rw [HRZ.out]; rfl) (by rw [HRZ.out]; rfl)) ?_)
      | (go_at_call 9; refine HPE.out.mono ?_; rintro e x9 ⟨rfl, rfl⟩))
    go_ret
    exact ⟨rfl, HW6.out x8 H8.out⟩
  · have hsh' : short = false := by simpa using hsh
    subst hsh'
    clear hsh
    have e159 : bl1 = 160 := HLE.out.2.1
    subst e159
    obtain ⟨L2, hL2⟩ : ∃ L, ([((q : Int), bs0), ((q : Int), bs1)] : List (Int × List Int)) = L := ⟨_, rfl⟩
    have hL2M : LM (([⟨(q : Int), ba0, 160, bc0, bs0⟩, ⟨(q : Int), ba1, 160, bc1, bs1⟩] : List Rec.Im).map toIm) = L2 := by rw [← hL2]; rfl
    have hits : (itsTo (lastB L2) 6 (topL 6) (off 6 (topL 6 + 1))).length = 3 := by rw [← hL2]; exact tw_its q HQ.out bs0 bs1
    have hl2 : ∀ x ∈ L2, x.2.length = 160 ∧ Byt x.2 ∧ 0 ≤ x.1 ∧ x.1 < ((6 : Nat) : Int) := by
      have hq := HQ.out
      have hle := HLE.out
      intro x hx
      rw [← hL2] at hx
      simp only [List.mem_cons, List.not_mem_nil, or_false] at hx
      rcases hx with rfl | rfl
      · exact ⟨hle.2.2.2.2.1, hle.2.2.1, by show (0 : Int) ≤ (q : Int); omega, by show (q : Int) < 6; omega⟩
      · exact ⟨hle.2.2.2.2.2, hle.2.2.2.1, by show (0 : Int) ≤ (q : Int); omega, by show (q : Int) < 6; omega⟩
    obtain ⟨d1, R, hup1, hg1, _⟩ := good_update (good_new K 6 d0 HD0.out.1) (by omega) (by omega) L2 hl2 (by rw [← hL2]; simp) 1 1099511627776 (by omega) (by omega) (by rw [hits]; decide)
    rw [hits] at hup1
    have okv : (⟨K, 6, zr, 1, 1099511627776⟩ : Vt).Ok := H6a.out.1.ok
    have hlenM : ∀ m ∈ ([⟨(q : Int), ba0, 160, bc0, bs0⟩, ⟨(q : Int), ba1, 160, bc1, bs1⟩] : List Rec.Im).map toIm, m.bs.length = m.bl := by
      have hle := HLE.out
      intro m hm
      simp only [List.map_cons, List.map_nil, List.mem_cons, List.not_mem_nil, or_false] at hm
      rcases hm with rfl | rfl
      · exact hle.2.2.2.2.1
      · exact hle.2.2.2.2.2
    have htk0 : tk 6 (([⟨(q : Int), ba0, 160, bc0, bs0⟩, ⟨(q : Int), ba1, 160, bc1, bs1⟩] : List Rec.Im).map toIm) = 0 := by
      have hq := HQ.out
      simp [tk, toIm]
      omega
    have hupM : updM (Yk (⟨K, 6, zr, 1, 1099511627776⟩ : Vt).key) Xd (⟨K, 6, zr, 1, 1099511627776⟩ : Vt).n (topL (⟨K, 6, zr, 1, 1099511627776⟩ : Vt).n) (⟨K, 6, zr, 1, 1099511627776⟩ : Vt).lim (LM (([⟨(q : Int), ba0, 160, bc0, bs0⟩, ⟨(q : Int), ba1, 160, bc1, bs1⟩] : List Rec.Im).map toIm)) d0 (⟨K, 6, zr, 1, 1099511627776⟩ : Vt).nx (⟨K, 6, zr, 1, 1099511627776⟩ : Vt).top = (d1, 4, 0, R) := by
      rw [hL2M]
      exact hup1
    have huw := uw_updM ⟨K, 6, zr, 1, 1099511627776⟩ okv _ (by simp) hlenM htk0 d0 d1 4 R hupM
    rw [hL2M, show (⟨K, 6, zr, 1, 1099511627776⟩ : Vt).n = 6 from rfl, hits, HD0.out.2.2.2.1] at huw
    have hgw := gw_updM ⟨K, 6, zr, 1, 1099511627776⟩ okv _ hlenM (fun m hm => by
      simp only [List.map_cons, List.map_nil, List.mem_cons, List.not_mem_nil, or_false] at hm
      rcases hm with rfl | rfl
      · show (0 : Int) ≤ (q : Int); omega
      · show (0 : Int) ≤ (q : Int); omega) d0
    rw [hupM] at hgw
    obtain ⟨d2, hrm2, _, _⟩ := good_read hg1 (by omega) (by omega) q HQ.out
    have hnf : newF (fun _ => y160) (lastB L2) q = bs1 := by rw [newF, ← hL2, tw_last]; rfl
    rw [hnf] at hrm2
    have huw2 := uw_read K 6 q (topL 6) d1 R
    rw [hrm2] at huw2
    have HP : Box (OkR R ∧ d1.uw.length = 3 ∧ d2.uw.length = 3 ∧ d1.ops.length ≤ 20000 ∧ readM (Yk K) Xd 6 q (topL 6) d1 R = (d2, 0, bs1)) := ⟨hg1.okr, by omega, by rw [show d2.uw = d1.uw from huw2]; omega, by have := hgw.ops; have := HD0.out.2.2.1; simp only at *; omega, hrm2⟩
    obtain ⟨RR, HRR⟩ : ∃ A, Box (ra R = A) := ⟨_, ⟨rfl⟩⟩
    have HRRI : Box ((Tryz.prog.info? 35).map (·.size) = some RR.size ∧ (ra zr).size = RR.size ∧ RR.all (·.oneCell') = true ∧ (Tryz.prog.info? 35).map (·.size) = some (rc R).length ∧ (rc R).toArray = RR) := ⟨by rw [← HRR.out, size_ra HP.out.1]; exact infoR, by rw [← HRR.out, size_ra HP.out.1, size_ra okR_zr], by rw [← HRR.out]; exact all_ra R, by rw [rc_len HP.out.1]; exact infoR, by rw [← HRR.out]; rfl⟩
    have HUP : Box (Calls Tryz.prog 8 #[.pointer (some ⟨V, 0, none⟩), .slice xa 2 xc] x6 fun e w' => ∃ fp', e = .returned (.tuple #[.agg RR, .int .i64 0]) ∧ VC x1 w' V D fp' ⟨K, 6, zr, 4, 1099511627776⟩ d1 sa sc ∧ Fw (fun k => k = V) x6 w' fp5 fp') := ⟨by
      have := update_v H6a.out.1 xa xc _ HIM6.out (by simp) HBLK.out (by show (1 : Int) ≤ 1; omega) HD0.out.2.2.2.2 (by rw [HD0.out.2.2.1]; omega) (by rw [HD0.out.2.2.2.1]; omega)
      rw [hupM] at this
      refine this.mono ?_
      rintro e w' ⟨fp', g1, g2, g3⟩
      exact ⟨fp', by rw [g1]; show Ending.returned (.tuple #[.agg (ra R), .int .i64 0]) = _; rw [HRR.out], g2, g3⟩⟩
    clear hL2 hL2M hits hl2 hup1 hg1 okv hlenM htk0 hupM huw hgw hrm2 hnf huw2
    go_upto_region 10 with (first
      | (go_at_call 8; refine HUP.out.mono ?_; rintro e x7 ⟨fp7, rfl, g1, g2⟩; have H7 : Box (VC x1 x7 V D fp7 ⟨K, 6, zr, 4, 1099511627776⟩ d1 sa sc ∧ Fw (fun k => k = V) x6 x7 fp5 fp7) := ⟨g1, g2⟩; clear g1 g2)
      | (refine atAlloc _ ?_; refine wpList_run rfl _ _ (exec_alloc 35 rfl _ zeroR) ?_)
      | (refine atStore _ ?_; refine wpList_newRow x7 (ra zr) RR HRRI.out.1 HRRI.out.2.1 HRRI.out.2.2.1 rfl _ _ rfl rfl rfl rfl ?_; intro x8 h8 hb8; have H8 : Box (x8.heap[x7.heap.size]? = some (.cells RR 35 (0, 0)) ∧ Below x7.heap.size x7 x8) := ⟨h8, hb8⟩; clear h8 hb8))
    clear HUP
    obtain ⟨S7, hS7⟩ : ∃ S7, x7.heap.size = S7 := ⟨_, rfl⟩
    (try simp only [hS7])
    have H8a : Box (VC x1 x8 V D fp7 ⟨K, 6, zr, 4, 1099511627776⟩ d1 sa sc ∧ x8.heap[S5]? = some (.cells RZ 35 (0, 0)) ∧ x8.heap[S7]? = some (.cells RR 35 (0, 0)) ∧ (∀ i, x3.heap.size ≤ i → i < x4.heap.size → x8.heap[i]? = x4.heap[i]? ∧ ¬ fp7 i ∧ i ≠ V ∧ i < x8.heap.size)) := ⟨by
      have h := H6a.out
      have h76 := H7.out.2.size
      have h87 := H8.out.2.size
      refine ⟨H7.out.1.below H8.out.2, (H8.out.2.block S5 (by omega)).trans ((H7.out.2.block h.2.2.2.2.1 h.2.2.1 h.2.2.2.1).trans h.2.1), by rw [← hS7]; exact H8.out.1, fun i h1 h2 => ?_⟩
      obtain ⟨g1, g2, g3, g4⟩ := h.2.2.2.2.2 i h1 h2
      exact ⟨(H8.out.2.block i (by omega)).trans ((H7.out.2.block g4 g2 g3).trans g1), H7.out.2.k i g4 g2, g3, by omega⟩⟩
    clear hS7 H7 H8
    have HR8 : Box (x8.rangeAt S5 0 (rc zr) ∧ x8.rangeAt S7 0 (rc R)) := ⟨fun i v hv => by
      rw [cell_of_row _ _ _ _ _ _ H8a.out.2.1, Nat.zero_add, ← HRI.out.2.2.2.2]
      simpa using hv, fun i v hv => by
      rw [cell_of_row _ _ _ _ _ _ H8a.out.2.2.1, Nat.zero_add, ← HRRI.out.2.2.2.2]
      simpa using hv⟩
    have HAD : Box (Calls Tryz.prog 10 #[.pointer (some ⟨V, 0, none⟩), .agg RR, .int .u64 1099511627776] x8 fun e w' => e = .returned (.tuple #[]) ∧ VC x1 w' V D fp7 ⟨K, 6, R, 4, mn63 1099511627776⟩ d1 sa sc ∧ Fw (fun k => k = V) x8 w' fp7 fp7) := ⟨by
      have := adopt_v H8a.out.1 R HP.out.1 1099511627776 ⟨by decide, by decide⟩
      rw [HRR.out] at this
      exact this⟩
    go_upto_region 14 with (first
      | (refine atLoad 35 ?_; refine wpList_runG (by rfl) _ _ (exec_load_mid 35 _ _ rfl Tryz.underlying35 rfl S5 0 rfl (rc zr) HRI.out.2.2.2.1 HR8.out.1) ?_; rw [HRI.out.2.2.2.2])
      | (refine atBuild 35 ?_; refine wpList_runG (by rfl) _ _ (exec_built 35 [] rfl [] rfl RZ (by rw [← HRZ.out]; exact built_R0)) ?_)
      | (refine atBin .neq 35 ?_; refine wpList_runG (by rfl) _ _ (exec_neRf _ _ _ rfl zr zr okR_zr okR_zr false HEQ.out (by rw [HRZ.out]; rfl) (by rw [HRZ.out]; rfl)) ?_))
    go_upto_region 15 with (first
      | (refine atLoad 35 ?_; refine wpList_ldMid rfl 35 _ _ rfl Tryz.underlying35 rfl S7 0 rfl (rc R) HRRI.out.2.2.2.1 HR8.out.2 ?_; rw [HRRI.out.2.2.2.2])
      | (go_at_call 10; refine HAD.out.mono ?_; rintro e x9 ⟨rfl, g1, g2⟩; have H9 : Box (VC x1 x9 V D fp7 ⟨K, 6, R, 4, mn63 1099511627776⟩ d1 sa sc ∧ Fw (fun k => k = V) x8 x9 fp7 fp7) := ⟨g1, g2⟩; clear g1 g2))
    clear HAD HR8
    have HRD : Box (Calls Tryz.prog 11 #[.pointer (some ⟨V, 0, none⟩), .int .u64 (q : Int)] x9 fun e w' => ∃ fp' ac, e = .returned (.tuple #[.slice ac 160 160, .int .i64 0]) ∧ VC x1 w' V D fp' ⟨K, 6, R, 4, mn63 1099511627776⟩ d2 sa sc ∧ Fw No x9 w' fp7 fp' ∧ Bytes w' ac 160 bs1) := ⟨by
      have := read_ok H9.out.1 q HQ.out (by have := HP.out; omega) (by have := HP.out; omega)
      rw [show readM (Yk (⟨K, 6, R, 4, mn63 1099511627776⟩ : Vt).key) Xd (⟨K, 6, R, 4, mn63 1099511627776⟩ : Vt).n q (topL (⟨K, 6, R, 4, mn63 1099511627776⟩ : Vt).n) d1 (⟨K, 6, R, 4, mn63 1099511627776⟩ : Vt).top = (d2, 0, bs1) from HP.out.2.2.2.2] at this
      refine this.mono ?_
      rintro e w' ⟨fp', ac, g1, g2, g3, g4⟩
      have hl : bs1.length = 160 := HLE.out.2.2.2.2.2
      simp only [hl] at g3 g4
      exact ⟨fp', ac, g3, g1, g2, g4⟩⟩
    go_upto_region 16 with (go_at_call 11; refine HRD.out.mono ?_; rintro e x10 ⟨fp10, ac, rfl, g1, g2, g3⟩; have H10 : Box (VC x1 x10 V D fp10 ⟨K, 6, R, 4, mn63 1099511627776⟩ d2 sa sc ∧ Fw No x9 x10 fp7 fp10 ∧ Bytes x10 ac 160 bs1) := ⟨g1, g2, g3⟩; clear g1 g2 g3)
    clear HRD
    have HOI : Box (∀ x, Below x10.heap.size x10 x → Rec.OImgs x x3.heap.size (.slice xa 2 xc) [⟨(q : Int), ba0, 160, bc0, bs0⟩, ⟨(q : Int), ba1, 160, bc1, bs1⟩]) := ⟨fun x hx => by
      refine oimgs_keep H4.out.1 (fun i h1 h2 => ?_)
      obtain ⟨g1, g2, g3, g4⟩ := H8a.out.2.2.2 i h1 h2
      have h9 := H9.out.2.size
      have h10 := H10.out.2.1.size
      exact (hx.block i (by omega)).trans ((H10.out.2.1.block (by omega) (H9.out.2.k i g4 g2) id).trans ((H9.out.2.block g4 g2 g3).trans g1))⟩
    have hI10 : Rec.Imgs x10 xa [⟨(q : Int), ba0, 160, bc0, bs0⟩, ⟨(q : Int), ba1, 160, bc1, bs1⟩] := Rec.OImgs.imgs (c := xc) (HOI.out x10 (Below.refl _ _))
    obtain ⟨xb, xo, hxa, hxb, hxr⟩ := hI10.tb (by simp)
    clear hI10
    subst hxa
    have HC0 : Box (∀ x, Below x10.heap.size x10 x → x.rangeAt xb (xo + 0 * 2) [.int .u64 (q : Int), .slice ba0 160 bc0] ∧ x.rangeAt xb (xo + 1 * 2) [.int .u64 (q : Int), .slice ba1 160 bc1] ∧ Bytes x ba0 160 bs0 ∧ Bytes x ba1 160 bs1 ∧ Bytes x ac 160 bs1 ∧ Below w.heap.size w x) := ⟨fun x hx => by
      have h0 := hxr 0 (by simp)
      have h1 := hxr 1 (by simp)
      have ho := HOI.out x hx
      exact ⟨range_below hx h0 hxb, range_below hx h1 hxb, (ho.byt ⟨(q : Int), ba0, 160, bc0, bs0⟩ (by simp)).byi.1, (ho.byt ⟨(q : Int), ba1, 160, bc1, bs1⟩ (by simp)).byi.1, H10.out.2.2.below hx, (HX.out x (below_to H1.out (below_to H10.out.1.cx.bel hx))).2.2.2.2.2⟩⟩
    have HBC : Box (bc0 ≤ maxLen ∧ 160 ≤ bc0) := ⟨by have h := HO.out.1.byi; exact ⟨h.2.2.2, h.2.2.1⟩⟩
    have HUB : Box (∀ (y z : World) (N9 : Nat), Below x10.heap.size x10 y → y.heap[N9]? = some (.cells #[.int .u64 (q : Int), .slice ba0 160 bc0, .int .u64 6, .slice ba0 160 bc0] 39 (0, 0)) → Calls Tryz.prog 8 #[.pointer (some ⟨V, 0, none⟩), .slice (some ⟨N9, 0, none⟩) 2 2] y fun e w' => e = .returned (.tuple #[.agg RZ, .int .i64 12]) ∧ Below y.heap.size y w') := ⟨fun y z N9 hy hr => by
      have hB := (HC0.out y hy).2.2.1
      have hI : Imgs y (some ⟨N9, 0, none⟩) [⟨(q : Int), ba0, 160, bc0, bs0⟩, ⟨6, ba0, 160, bc0, bs0⟩] := by
        refine ⟨fun _ => ⟨N9, 0, rfl, (Array.getElem?_eq_some_iff.1 hr).1, fun i hi j v hv => ?_⟩, fun m hm => ?_⟩
        · rw [cell_of_row _ _ _ _ _ _ hr]
          simp only [List.length_cons, List.length_nil] at hi
          match i, hi with
          | 0, _ =>
            match j, hv with
            | 0, hv => simpa [imc] using hv
            | 1, hv => simpa [imc] using hv
            | j + 2, hv => simp [imc] at hv
          | 1, _ =>
            match j, hv with
            | 0, hv => simpa [imc] using hv
            | 1, hv => simpa [imc] using hv
            | j + 2, hv => simp [imc] at hv
        · have hq := HQ.out
          simp only [List.mem_cons, List.not_mem_nil, or_false] at hm
          rcases hm with rfl | rfl
          · exact ⟨hB, by show (0 : Int) ≤ (q : Int); omega, by show (q : Int) ≤ _; omega, by show 160 ≤ maxLen; unfold maxLen; omega⟩
          · exact ⟨hB, by show (0 : Int) ≤ 6; omega, by show (6 : Int) ≤ _; omega, by show 160 ≤ maxLen; unfold maxLen; omega⟩
      have htk : tk 6 ([⟨(q : Int), ba0, 160, bc0, bs0⟩, ⟨6, ba0, 160, bc0, bs0⟩] : List Im) = 12 := by
        simp [tk]
      have := update_no (H10.out.1.below hy) (some ⟨N9, 0, none⟩) 2 _ hI (by simp) (by show tk 6 _ ≠ 0; rw [htk]; decide)
      rw [show tk (⟨K, 6, R, 4, mn63 1099511627776⟩ : Vt).n ([⟨(q : Int), ba0, 160, bc0, bs0⟩, ⟨6, ba0, 160, bc0, bs0⟩] : List Im) = 12 from htk, HRZ.out] at this
      exact this⟩
    have HPE : Box (∀ x, Below x10.heap.size x10 x → Calls Tryz.prog 9 #[.pointer (some ⟨D, 0, none⟩)] x fun e w' => e = .returned (.int .i64 3) ∧ x = w') := ⟨fun x hx => by
      have := Disk.pending_cx (H10.out.1.below hx).cx
      rw [HP.out.2.2.1] at this
      exact this⟩
    have HB1 : Box (Byt bs1) := ⟨HLE.out.2.2.2.1⟩
    clear H9 H8a H6a HOI hxb hxr HIM6 HBLK HW6 H4 H3 H2 H1 HX HO HMF HLE HP HRRI HRR
    refine Disk.begin_keep (S := fun x => Below x10.heap.size x10 x) (by kernel_rfl) (fun wd hwd => ?_)
    have hS : Below x10.heap.size x10 wd := by rw [hwd]; exact (Below.refl _ _).drew
    clear hwd
    refine take_s (i := 0) (v := ?_) rfl (by kernel_rfl) (by kernel_rfl) (by kernel_rfl) (fun _ _ _ h => h) (by rfl) ?_ hS ?_
    rotate_left
    · intro w' hLat; clear hLat; go_simp <;> with_reducible rfl
    try simp only [Act.put, List.setIfInBounds_toArray, List.set_cons_zero, List.set_cons_succ, List.getElem_toArray, List.getElem_cons_zero]
    refine take_s (i := 1) (v := ?_) rfl (by kernel_rfl) (by kernel_rfl) (by kernel_rfl) (fun _ _ _ h => h) (by rfl) ?_ hS ?_
    rotate_left
    · intro w' hLat; clear hLat; go_simp <;> with_reducible rfl
    try simp only [Act.put, List.setIfInBounds_toArray, List.set_cons_zero, List.set_cons_succ, List.getElem_toArray, List.getElem_cons_zero, List.getElem_cons_succ]
    refine take_s (i := 2) (v := .pointer (some ⟨xb, xo + 0 * 2, none⟩)) rfl (by kernel_rfl) (by kernel_rfl) (by kernel_rfl) (fun _ _ _ h => h) (by rfl) (fun w' hLat => exec_idxIm _ _ rfl xb xo 2 xc 0 rfl rfl (by omega)) hS ?_
    try simp only [Act.put, List.setIfInBounds_toArray, List.set_cons_zero, List.set_cons_succ, List.getElem_toArray, List.getElem_cons_zero, List.getElem_cons_succ]
    refine take_s (i := 3) (v := .agg #[.int .u64 (q : Int), .slice ba0 160 bc0]) rfl (by kernel_rfl) (by kernel_rfl) (by kernel_rfl) (fun _ _ _ h => h) (by rfl) (fun w' hLat => exec_load_mid 39 _ _ rfl Tryz.underlying39 rfl xb (xo + 0 * 2) rfl [.int .u64 (q : Int), .slice ba0 160 bc0] infoIm (HC0.out w' hLat).1) hS ?_
    try simp only [Act.put, List.setIfInBounds_toArray, List.set_cons_zero, List.set_cons_succ, List.getElem_toArray, List.getElem_cons_zero, List.getElem_cons_succ]
    refine take_s (i := 4) (v := ?_) rfl (by kernel_rfl) (by kernel_rfl) (by kernel_rfl) (fun _ _ _ h => h) (by rfl) ?_ hS ?_
    rotate_left
    · intro w' hLat; clear hLat; go_simp <;> with_reducible rfl
    try simp only [Act.put, List.setIfInBounds_toArray, List.set_cons_zero, List.set_cons_succ, List.getElem_toArray, List.getElem_cons_zero, List.getElem_cons_succ]
    refine take_s (i := 5) (v := .pointer (some ⟨xb, xo + 0 * 2, none⟩)) rfl (by kernel_rfl) (by kernel_rfl) (by kernel_rfl) (fun _ _ _ h => h) (by rfl) (fun w' hLat => exec_idxIm _ _ rfl xb xo 2 xc 0 rfl rfl (by omega)) hS ?_
    try simp only [Act.put, List.setIfInBounds_toArray, List.set_cons_zero, List.set_cons_succ, List.getElem_toArray, List.getElem_cons_zero, List.getElem_cons_succ]
    refine take_s (i := 6) (v := ?_) rfl (by kernel_rfl) (by kernel_rfl) (by kernel_rfl) (fun _ _ _ h => h) (by rfl) ?_ hS ?_
    rotate_left
    · intro w' hLat; clear hLat; go_simp <;> with_reducible rfl
    try simp only [Act.put, List.setIfInBounds_toArray, List.set_cons_zero, List.set_cons_succ, List.getElem_toArray, List.getElem_cons_zero, List.getElem_cons_succ]
    refine take_s (i := 7) (v := .slice ba0 160 bc0) rfl (by kernel_rfl) (by kernel_rfl) (by kernel_rfl) (fun _ _ _ h => h) (by rfl) (fun w' hLat => Disk.exec_load1 24 _ _ rfl Tryz.underlying24 rfl _ rfl _ (by have h9 := (HC0.out w' hLat).1 1 _ rfl; first | exact h9 | simpa using h9)) hS ?_
    try simp only [Act.put, List.setIfInBounds_toArray, List.set_cons_zero, List.set_cons_succ, List.getElem_toArray, List.getElem_cons_zero, List.getElem_cons_succ]
    refine take_s (i := 8) (v := .agg #[.int .u64 6, .slice ba0 160 bc0]) rfl (by kernel_rfl) (by kernel_rfl) (by kernel_rfl) (fun _ _ _ h => h) (by rfl) (fun w' hLat => exec_built 39 [(0, .const (.int .u64 6)), (1, .tmp 99)] rfl [(0, .int .u64 6), (1, .slice ba0 160 bc0)] rfl _ (Rec.built_Im _ _ _ _)) hS ?_
    try simp only [Act.put, List.setIfInBounds_toArray, List.set_cons_zero, List.set_cons_succ, List.getElem_toArray, List.getElem_cons_zero, List.getElem_cons_succ]
    refine Disk.two_keep (i := 9) (j := 14) (by kernel_rfl) ?_ ?_
    · refine Disk.keep_step rfl (by rfl) ?_
      go_simp
      obtain ⟨N9, hN9⟩ : ∃ N, wd.heap.size = N := ⟨_, rfl⟩
      obtain ⟨v9, hv9⟩ : ∃ v, wd.alloc (.cells #[.int .u64 (q : Int), .slice ba0 160 bc0, .int .u64 6, .slice ba0 160 bc0] 39) = v := ⟨_, rfl⟩
      have hb9 : Below wd.heap.size wd v9 := by rw [← hv9]; exact (Below.refl _ _).alloc (Nat.le_refl _) _
      have hr9 : v9.heap[N9]? = some (.cells #[.int .u64 (q : Int), .slice ba0 160 bc0, .int .u64 6, .slice ba0 160 bc0] 39 (0, 0)) := by rw [← hv9]; exact al_at hN9
      simp only [hN9, hv9]
      have hS9 : Below x10.heap.size x10 v9 := below_to hS hb9
      refine ⟨hS9, ?_⟩
      replace hS := hS9
      clear hv9 hN9 hS9
      try simp only [Act.put, List.setIfInBounds_toArray, List.set_cons_zero, List.set_cons_succ, List.getElem_toArray, List.getElem_cons_zero, List.getElem_cons_succ]
      refine Disk.two_keep (i := 10) (j := 14) (by kernel_rfl) ?_ ?_
      · refine Disk.keep_step rfl (by rfl) ?_
        go_simp
        refine Calls.mono (HUB.out v9 v9 N9 hS hr9) ?_
        rintro e v10 ⟨rfl, hb10⟩
        have hS10 : Below x10.heap.size x10 v10 := below_to hS hb10
        refine ⟨hS10, ?_⟩
        replace hS := hS10
        clear hS10
        try simp only [Act.put, List.setIfInBounds_toArray, List.set_cons_zero, List.set_cons_succ, List.getElem_toArray, List.getElem_cons_zero, List.getElem_cons_succ]
        refine take_s (i := 11) (v := ?_) rfl (by kernel_rfl) (by kernel_rfl) (by kernel_rfl) (fun _ _ _ h => h) (by rfl) ?_ hS ?_
        rotate_left
        · intro w' hLat; clear hLat; go_simp <;> with_reducible rfl
        try simp only [Act.put, List.setIfInBounds_toArray, List.set_cons_zero, List.set_cons_succ, List.getElem_toArray, List.getElem_cons_zero, List.getElem_cons_succ]
        refine take_s (i := 12) (v := ?_) rfl (by kernel_rfl) (by kernel_rfl) (by kernel_rfl) (fun _ _ _ h => h) (by rfl) ?_ hS ?_
        rotate_left
        · intro w' hLat; clear hLat; go_simp <;> with_reducible rfl
        try simp only [Act.put, List.setIfInBounds_toArray, List.set_cons_zero, List.set_cons_succ, List.getElem_toArray, List.getElem_cons_zero, List.getElem_cons_succ]
        refine take_s (i := 13) (v := ?_) rfl (by kernel_rfl) (by kernel_rfl) (by kernel_rfl) (fun _ _ _ h => h) (by rfl) ?_ hS ?_
        rotate_left
        · intro w' hLat; clear hLat; go_simp <;> with_reducible rfl
        try simp only [Act.put, List.setIfInBounds_toArray, List.set_cons_zero, List.set_cons_succ, List.getElem_toArray, List.getElem_cons_zero, List.getElem_cons_succ]
        refine Disk.one_keep (i := 14) (by kernel_rfl) ?_
        refine Disk.keep_step rfl (by rfl) ?_
        unfold Oper.wp
        rw [exec_alloc 35 rfl _ zeroR]
        obtain ⟨N14, hN14⟩ : ∃ N, v10.heap.size = N := ⟨_, rfl⟩
        obtain ⟨v14, hv14⟩ : ∃ v, v10.alloc (.cells (ra zr) 35) = v := ⟨_, rfl⟩
        have hb14 : Below v10.heap.size v10 v14 := by rw [← hv14]; exact (Below.refl _ _).alloc (Nat.le_refl _) _
        have hr14 : v14.heap[N14]? = some (.cells (ra zr) 35 (0, 0)) := by rw [← hv14]; exact al_at hN14
        have hl14 : x10.heap.size ≤ N14 := by rw [← hN14]; exact hS.size
        simp only [hN14, hv14]
        have hS14 : Below x10.heap.size x10 v14 := below_to hS hb14
        refine ⟨hS14, ?_⟩
        replace hS := hS14
        clear hv14 hN14 hS14
        try simp only [Act.put, List.setIfInBounds_toArray, List.set_cons_zero, List.set_cons_succ, List.getElem_toArray, List.getElem_cons_zero, List.getElem_cons_succ]
        refine Disk.one_keep (i := 15) (by kernel_rfl) ?_
        refine Disk.keep_step rfl (by rfl) ?_
        have hrr : v14.heap[N14]? = some (.cells (ra zr) 35 (0, 0)) := hr14
        refine wp_store_mid 35 (.tmp 24) (.tmp 103) rfl N14 0 RZ rfl rfl (there_row hrr (by rw [HRI.out.2.1]; omega)) HRI.out.1 HRI.out.2.2.1 ?_
        obtain ⟨y, hy⟩ : ∃ y, v14.setCells N14 0 RZ.toList = y := ⟨_, rfl⟩
        rw [hy]
        have hby : Below x10.heap.size x10 y := below_but hS (by rw [← hy]; exact Disk.but_setCells _ _ _ _ _ (But.refl _ _)) hl14
        refine ⟨hby, ?_⟩
        replace hS := hby
        clear hby
        try simp only [Act.put, List.getElem_toArray, List.getElem_cons_zero, List.getElem_cons_succ]
        refine take_s (i := 16) (v := ?_) rfl (by kernel_rfl) (by kernel_rfl) (by kernel_rfl) (fun _ _ _ h => h) (by rfl) ?_ hS ?_
        rotate_left
        · intro w' hLat; clear hLat; go_simp <;> with_reducible rfl
        try simp only [Act.put, List.setIfInBounds_toArray, List.set_cons_zero, List.set_cons_succ, List.getElem_toArray, List.getElem_cons_zero, List.getElem_cons_succ]
        refine wpAnyH_done (by kernel_rfl) ?_ _
        have HE : Box (Below x10.heap.size x10 y) := ⟨hS⟩
        clear hS hy hrr
        go_upto_region 17 with fail
        refine Disk.begin_keep (S := fun x => Below x10.heap.size x10 x) (by kernel_rfl) (fun wd hwd => ?_)
        have hS : Below x10.heap.size x10 wd := below_to HE.out (by rw [hwd]; exact (Below.refl _ _).drew)
        clear hwd
        refine take_s (i := 0) (v := ?_) rfl (by kernel_rfl) (by kernel_rfl) (by kernel_rfl) (fun _ _ _ h => h) (by rfl) ?_ hS ?_
        rotate_left
        · intro w' hLat; clear hLat; go_simp <;> with_reducible rfl
        try simp only [Act.put, List.setIfInBounds_toArray, List.set_cons_zero, List.set_cons_succ, List.getElem_toArray, List.getElem_cons_zero]
        refine take_s (i := 1) (v := ?_) rfl (by kernel_rfl) (by kernel_rfl) (by kernel_rfl) (fun _ _ _ h => h) (by rfl) ?_ hS ?_
        rotate_left
        · intro w' hLat; clear hLat; go_simp <;> with_reducible rfl
        try simp only [Act.put, List.setIfInBounds_toArray, List.set_cons_zero, List.set_cons_succ, List.getElem_toArray, List.getElem_cons_zero, List.getElem_cons_succ]
        refine take_s (i := 2) (v := ?_) rfl (by kernel_rfl) (by kernel_rfl) (by kernel_rfl) (fun _ _ _ h => h) (by rfl) ?_ hS ?_
        rotate_left
        · intro w' hLat; clear hLat; go_simp <;> with_reducible rfl
        try simp only [Act.put, List.setIfInBounds_toArray, List.set_cons_zero, List.set_cons_succ, List.getElem_toArray, List.getElem_cons_zero, List.getElem_cons_succ]
        refine take_s (i := 3) (v := ?_) rfl (by kernel_rfl) (by kernel_rfl) (by kernel_rfl) (fun _ _ _ h => h) (by rfl) ?_ hS ?_
        rotate_left
        · intro w' hLat; clear hLat; go_simp <;> with_reducible rfl
        try simp only [Act.put, List.setIfInBounds_toArray, List.set_cons_zero, List.set_cons_succ, List.getElem_toArray, List.getElem_cons_zero, List.getElem_cons_succ]
        refine take_s (i := 4) (v := ?_) rfl (by kernel_rfl) (by kernel_rfl) (by kernel_rfl) (fun _ _ _ h => h) (by rfl) ?_ hS ?_
        rotate_left
        · intro w' hLat; clear hLat; go_simp <;> with_reducible rfl
        try simp only [Act.put, List.setIfInBounds_toArray, List.set_cons_zero, List.set_cons_succ, List.getElem_toArray, List.getElem_cons_zero, List.getElem_cons_succ]
        refine take_s (i := 5) (v := ?_) rfl (by kernel_rfl) (by kernel_rfl) (by kernel_rfl) (fun _ _ _ h => h) (by rfl) ?_ hS ?_
        rotate_left
        · intro w' hLat; clear hLat; go_simp <;> with_reducible rfl
        try simp only [Act.put, List.setIfInBounds_toArray, List.set_cons_zero, List.set_cons_succ, List.getElem_toArray, List.getElem_cons_zero, List.getElem_cons_succ]
        refine take_s (i := 6) (v := ?_) rfl (by kernel_rfl) (by kernel_rfl) (by kernel_rfl) (fun _ _ _ h => h) (by rfl) ?_ hS ?_
        rotate_left
        · intro w' hLat; clear hLat; go_simp <;> with_reducible rfl
        try simp only [Act.put, List.setIfInBounds_toArray, List.set_cons_zero, List.set_cons_succ, List.getElem_toArray, List.getElem_cons_zero, List.getElem_cons_succ]
        refine take_s (i := 7) (v := ?_) rfl (by kernel_rfl) (by kernel_rfl) (by kernel_rfl) (fun _ _ _ h => h) (by rfl) ?_ hS ?_
        rotate_left
        · intro w' hLat; clear hLat; go_simp <;> with_reducible rfl
        try simp only [Act.put, List.setIfInBounds_toArray, List.set_cons_zero, List.set_cons_succ, List.getElem_toArray, List.getElem_cons_zero, List.getElem_cons_succ]
        refine take_s (i := 8) (v := .string (strOfNums bs1)) rfl (by kernel_rfl) (by kernel_rfl) (by kernel_rfl) (fun _ _ _ h => h) (by rfl) (fun w' hLat => exec_convG _ rfl rfl (HC0.out w' hLat).2.2.2.2.1) hS ?_
        try simp only [Act.put, List.setIfInBounds_toArray, List.set_cons_zero, List.set_cons_succ, List.getElem_toArray, List.getElem_cons_zero, List.getElem_cons_succ]
        refine take_s (i := 9) (v := ?_) rfl (by kernel_rfl) (by kernel_rfl) (by kernel_rfl) (fun _ _ _ h => h) (by rfl) ?_ hS ?_
        rotate_left
        · intro w' hLat; clear hLat; go_simp <;> with_reducible rfl
        try simp only [Act.put, List.setIfInBounds_toArray, List.set_cons_zero, List.set_cons_succ, List.getElem_toArray, List.getElem_cons_zero, List.getElem_cons_succ]
        refine take_s (i := 10) (v := .pointer (some ⟨xb, xo + 1 * 2, none⟩)) rfl (by kernel_rfl) (by kernel_rfl) (by kernel_rfl) (fun _ _ _ h => h) (by rfl) (fun w' hLat => exec_idxIm _ _ rfl xb xo 2 xc 1 rfl rfl (by omega)) hS ?_
        try simp only [Act.put, List.setIfInBounds_toArray, List.set_cons_zero, List.set_cons_succ, List.getElem_toArray, List.getElem_cons_zero, List.getElem_cons_succ]
        refine take_s (i := 11) (v := ?_) rfl (by kernel_rfl) (by kernel_rfl) (by kernel_rfl) (fun _ _ _ h => h) (by rfl) ?_ hS ?_
        rotate_left
        · intro w' hLat; clear hLat; go_simp <;> with_reducible rfl
        try simp only [Act.put, List.setIfInBounds_toArray, List.set_cons_zero, List.set_cons_succ, List.getElem_toArray, List.getElem_cons_zero, List.getElem_cons_succ]
        refine take_s (i := 12) (v := .slice ba1 160 bc1) rfl (by kernel_rfl) (by kernel_rfl) (by kernel_rfl) (fun _ _ _ h => h) (by rfl) (fun w' hLat => Disk.exec_load1 24 _ _ rfl Tryz.underlying24 rfl _ rfl _ (by have h9 := (HC0.out w' hLat).2.1 1 _ rfl; first | exact h9 | simpa using h9)) hS ?_
        try simp only [Act.put, List.setIfInBounds_toArray, List.set_cons_zero, List.set_cons_succ, List.getElem_toArray, List.getElem_cons_zero, List.getElem_cons_succ]
        refine take_s (i := 13) (v := .string (strOfNums bs1)) rfl (by kernel_rfl) (by kernel_rfl) (by kernel_rfl) (fun _ _ _ h => h) (by rfl) (fun w' hLat => exec_convG _ rfl rfl (HC0.out w' hLat).2.2.2.1) hS ?_
        try simp only [Act.put, List.setIfInBounds_toArray, List.set_cons_zero, List.set_cons_succ, List.getElem_toArray, List.getElem_cons_zero, List.getElem_cons_succ]
        refine take_s (i := 14) (v := .bool true) rfl (by kernel_rfl) (by kernel_rfl) (by kernel_rfl) (fun _ _ _ h => h) (by rfl) (fun w' hLat => exec_strEq _ _ _ rfl bs1 HB1.out rfl rfl) hS ?_
        try simp only [Act.put, List.setIfInBounds_toArray, List.set_cons_zero, List.set_cons_succ, List.getElem_toArray, List.getElem_cons_zero, List.getElem_cons_succ]
        refine take_s (i := 15) (v := ?_) rfl (by kernel_rfl) (by kernel_rfl) (by kernel_rfl) (fun _ _ _ h => h) (by rfl) ?_ hS ?_
        rotate_left
        · intro w' hLat; clear hLat; go_simp <;> with_reducible rfl
        try simp only [Act.put, List.setIfInBounds_toArray, List.set_cons_zero, List.set_cons_succ, List.getElem_toArray, List.getElem_cons_zero, List.getElem_cons_succ]
        refine take_s (i := 16) (v := ?_) rfl (by kernel_rfl) (by kernel_rfl) (by kernel_rfl) (fun _ _ _ h => h) (by rfl) ?_ hS ?_
        rotate_left
        · intro w' hLat; clear hLat; go_simp <;> with_reducible rfl
        try simp only [Act.put, List.setIfInBounds_toArray, List.set_cons_zero, List.set_cons_succ, List.getElem_toArray, List.getElem_cons_zero, List.getElem_cons_succ]
        refine take_s (i := 17) (v := ?_) rfl (by kernel_rfl) (by kernel_rfl) (by kernel_rfl) (fun _ _ _ h => h) (by rfl) ?_ hS ?_
        rotate_left
        · intro w' hLat; clear hLat; go_simp <;> with_reducible rfl
        try simp only [Act.put, List.setIfInBounds_toArray, List.set_cons_zero, List.set_cons_succ, List.getElem_toArray, List.getElem_cons_zero, List.getElem_cons_succ]
        refine take_s (i := 18) (v := ?_) rfl (by kernel_rfl) (by kernel_rfl) (by kernel_rfl) (fun _ _ _ h => h) (by rfl) ?_ hS ?_
        rotate_left
        · intro w' hLat; clear hLat; go_simp <;> with_reducible rfl
        try simp only [Act.put, List.setIfInBounds_toArray, List.set_cons_zero, List.set_cons_succ, List.getElem_toArray, List.getElem_cons_zero, List.getElem_cons_succ]
        refine take_s (i := 19) (v := ?_) rfl (by kernel_rfl) (by kernel_rfl) (by kernel_rfl) (fun _ _ _ h => h) (by rfl) ?_ hS ?_
        rotate_left
        · intro w' hLat; clear hLat; go_simp <;> with_reducible rfl
        try simp only [Act.put, List.setIfInBounds_toArray, List.set_cons_zero, List.set_cons_succ, List.getElem_toArray, List.getElem_cons_zero, List.getElem_cons_succ]
        refine take_s (i := 20) (v := ?_) rfl (by kernel_rfl) (by kernel_rfl) (by kernel_rfl) (fun _ _ _ h => h) (by rfl) ?_ hS ?_
        rotate_left
        · intro w' hLat; clear hLat; go_simp <;> with_reducible rfl
        try simp only [Act.put, List.setIfInBounds_toArray, List.set_cons_zero, List.set_cons_succ, List.getElem_toArray, List.getElem_cons_zero, List.getElem_cons_succ]
        refine take_s (i := 21) (v := ?_) rfl (by kernel_rfl) (by kernel_rfl) (by kernel_rfl) (fun _ _ _ h => h) (by rfl) ?_ hS ?_
        rotate_left
        · intro w' hLat; clear hLat; go_simp <;> with_reducible rfl
        try simp only [Act.put, List.setIfInBounds_toArray, List.set_cons_zero, List.set_cons_succ, List.getElem_toArray, List.getElem_cons_zero, List.getElem_cons_succ]
        refine Disk.one_keep (i := 22) (by kernel_rfl) ?_
        refine Disk.keep_step rfl (by rfl) ?_
        go_simp
        refine Calls.mono (HPE.out wd hS) ?_
        rintro e x20 ⟨rfl, rfl⟩
        refine ⟨hS, ?_⟩
        try simp only [Act.put, List.setIfInBounds_toArray, List.set_cons_zero, List.set_cons_succ, List.getElem_toArray, List.getElem_cons_zero, List.getElem_cons_succ]
        refine take_s (i := 23) (v := ?_) rfl (by kernel_rfl) (by kernel_rfl) (by kernel_rfl) (fun _ _ _ h => h) (by rfl) ?_ hS ?_
        rotate_left
        · intro w' hLat; clear hLat; go_simp <;> with_reducible rfl
        try simp only [Act.put, List.setIfInBounds_toArray, List.set_cons_zero, List.set_cons_succ, List.getElem_toArray, List.getElem_cons_zero, List.getElem_cons_succ]
        refine take_s (i := 24) (v := ?_) rfl (by kernel_rfl) (by kernel_rfl) (by kernel_rfl) (fun _ _ _ h => h) (by rfl) ?_ hS ?_
        rotate_left
        · intro w' hLat; clear hLat; go_simp <;> with_reducible rfl
        try simp only [Act.put, List.setIfInBounds_toArray, List.set_cons_zero, List.set_cons_succ, List.getElem_toArray, List.getElem_cons_zero, List.getElem_cons_succ]
        refine take_s (i := 25) (v := ?_) rfl (by kernel_rfl) (by kernel_rfl) (by kernel_rfl) (fun _ _ _ h => h) (by rfl) ?_ hS ?_
        rotate_left
        · intro w' hLat; clear hLat; go_simp <;> with_reducible rfl
        try simp only [Act.put, List.setIfInBounds_toArray, List.set_cons_zero, List.set_cons_succ, List.getElem_toArray, List.getElem_cons_zero, List.getElem_cons_succ]
        refine wpAnyH_done (by kernel_rfl) ?_ _
        have HF : Box (Below w.heap.size w wd) := ⟨(HC0.out wd hS).2.2.2.2.2⟩
        clear hS
        go_wp2
        go_ret
        exact ⟨rfl, HF.out⟩
      · refine Disk.keep_step rfl (by rfl) ?_
        unfold Oper.wp
        rw [exec_alloc 35 rfl _ zeroR]
        obtain ⟨N14, hN14⟩ : ∃ N, v9.heap.size = N := ⟨_, rfl⟩
        obtain ⟨v14, hv14⟩ : ∃ v, v9.alloc (.cells (ra zr) 35) = v := ⟨_, rfl⟩
        have hb14 : Below v9.heap.size v9 v14 := by rw [← hv14]; exact (Below.refl _ _).alloc (Nat.le_refl _) _
        have hr14 : v14.heap[N14]? = some (.cells (ra zr) 35 (0, 0)) := by rw [← hv14]; exact al_at hN14
        have hl14 : x10.heap.size ≤ N14 := by rw [← hN14]; exact hS.size
        simp only [hN14, hv14]
        have hS14 : Below x10.heap.size x10 v14 := below_to hS hb14
        refine ⟨hS14, ?_⟩
        replace hS := hS14
        clear hv14 hN14 hS14
        try simp only [Act.put, List.setIfInBounds_toArray, List.set_cons_zero, List.set_cons_succ, List.getElem_toArray, List.getElem_cons_zero, List.getElem_cons_succ]
        refine Disk.one_keep (i := 10) (by kernel_rfl) ?_
        refine Disk.keep_step rfl (by rfl) ?_
        go_simp
        refine Calls.mono (HUB.out v14 v14 N9 hS ((hb14.block N9 (Array.getElem?_eq_some_iff.1 hr9).1).trans hr9)) ?_
        rintro e v10 ⟨rfl, hb10⟩
        have hS10 : Below x10.heap.size x10 v10 := below_to hS hb10
        refine ⟨hS10, ?_⟩
        replace hS := hS10
        clear hS10
        try simp only [Act.put, List.setIfInBounds_toArray, List.set_cons_zero, List.set_cons_succ, List.getElem_toArray, List.getElem_cons_zero, List.getElem_cons_succ]
        refine take_s (i := 11) (v := ?_) rfl (by kernel_rfl) (by kernel_rfl) (by kernel_rfl) (fun _ _ _ h => h) (by rfl) ?_ hS ?_
        rotate_left
        · intro w' hLat; clear hLat; go_simp <;> with_reducible rfl
        try simp only [Act.put, List.setIfInBounds_toArray, List.set_cons_zero, List.set_cons_succ, List.getElem_toArray, List.getElem_cons_zero, List.getElem_cons_succ]
        refine take_s (i := 12) (v := ?_) rfl (by kernel_rfl) (by kernel_rfl) (by kernel_rfl) (fun _ _ _ h => h) (by rfl) ?_ hS ?_
        rotate_left
        · intro w' hLat; clear hLat; go_simp <;> with_reducible rfl
        try simp only [Act.put, List.setIfInBounds_toArray, List.set_cons_zero, List.set_cons_succ, List.getElem_toArray, List.getElem_cons_zero, List.getElem_cons_succ]
        refine take_s (i := 13) (v := ?_) rfl (by kernel_rfl) (by kernel_rfl) (by kernel_rfl) (fun _ _ _ h => h) (by rfl) ?_ hS ?_
        rotate_left
        · intro w' hLat; clear hLat; go_simp <;> with_reducible rfl
        try simp only [Act.put, List.setIfInBounds_toArray, List.set_cons_zero, List.set_cons_succ, List.getElem_toArray, List.getElem_cons_zero, List.getElem_cons_succ]
        refine Disk.one_keep (i := 15) (by kernel_rfl) ?_
        refine Disk.keep_step rfl (by rfl) ?_
        have hrr : v10.heap[N14]? = some (.cells (ra zr) 35 (0, 0)) := ((hb10.block N14 (Array.getElem?_eq_some_iff.1 hr14).1).trans hr14)
        refine wp_store_mid 35 (.tmp 24) (.tmp 103) rfl N14 0 RZ rfl rfl (there_row hrr (by rw [HRI.out.2.1]; omega)) HRI.out.1 HRI.out.2.2.1 ?_
        obtain ⟨y, hy⟩ : ∃ y, v10.setCells N14 0 RZ.toList = y := ⟨_, rfl⟩
        rw [hy]
        have hby : Below x10.heap.size x10 y := below_but hS (by rw [← hy]; exact Disk.but_setCells _ _ _ _ _ (But.refl _ _)) hl14
        refine ⟨hby, ?_⟩
        replace hS := hby
        clear hby
        try simp only [Act.put, List.getElem_toArray, List.getElem_cons_zero, List.getElem_cons_succ]
        refine take_s (i := 16) (v := ?_) rfl (by kernel_rfl) (by kernel_rfl) (by kernel_rfl) (fun _ _ _ h => h) (by rfl) ?_ hS ?_
        rotate_left
        · intro w' hLat; clear hLat; go_simp <;> with_reducible rfl
        try simp only [Act.put, List.setIfInBounds_toArray, List.set_cons_zero, List.set_cons_succ, List.getElem_toArray, List.getElem_cons_zero, List.getElem_cons_succ]
        refine wpAnyH_done (by kernel_rfl) ?_ _
        have HE : Box (Below x10.heap.size x10 y) := ⟨hS⟩
        clear hS hy hrr
        go_upto_region 17 with fail
        refine Disk.begin_keep (S := fun x => Below x10.heap.size x10 x) (by kernel_rfl) (fun wd hwd => ?_)
        have hS : Below x10.heap.size x10 wd := below_to HE.out (by rw [hwd]; exact (Below.refl _ _).drew)
        clear hwd
        refine take_s (i := 0) (v := ?_) rfl (by kernel_rfl) (by kernel_rfl) (by kernel_rfl) (fun _ _ _ h => h) (by rfl) ?_ hS ?_
        rotate_left
        · intro w' hLat; clear hLat; go_simp <;> with_reducible rfl
        try simp only [Act.put, List.setIfInBounds_toArray, List.set_cons_zero, List.set_cons_succ, List.getElem_toArray, List.getElem_cons_zero]
        refine take_s (i := 1) (v := ?_) rfl (by kernel_rfl) (by kernel_rfl) (by kernel_rfl) (fun _ _ _ h => h) (by rfl) ?_ hS ?_
        rotate_left
        · intro w' hLat; clear hLat; go_simp <;> with_reducible rfl
        try simp only [Act.put, List.setIfInBounds_toArray, List.set_cons_zero, List.set_cons_succ, List.getElem_toArray, List.getElem_cons_zero, List.getElem_cons_succ]
        refine take_s (i := 2) (v := ?_) rfl (by kernel_rfl) (by kernel_rfl) (by kernel_rfl) (fun _ _ _ h => h) (by rfl) ?_ hS ?_
        rotate_left
        · intro w' hLat; clear hLat; go_simp <;> with_reducible rfl
        try simp only [Act.put, List.setIfInBounds_toArray, List.set_cons_zero, List.set_cons_succ, List.getElem_toArray, List.getElem_cons_zero, List.getElem_cons_succ]
        refine take_s (i := 3) (v := ?_) rfl (by kernel_rfl) (by kernel_rfl) (by kernel_rfl) (fun _ _ _ h => h) (by rfl) ?_ hS ?_
        rotate_left
        · intro w' hLat; clear hLat; go_simp <;> with_reducible rfl
        try simp only [Act.put, List.setIfInBounds_toArray, List.set_cons_zero, List.set_cons_succ, List.getElem_toArray, List.getElem_cons_zero, List.getElem_cons_succ]
        refine take_s (i := 4) (v := ?_) rfl (by kernel_rfl) (by kernel_rfl) (by kernel_rfl) (fun _ _ _ h => h) (by rfl) ?_ hS ?_
        rotate_left
        · intro w' hLat; clear hLat; go_simp <;> with_reducible rfl
        try simp only [Act.put, List.setIfInBounds_toArray, List.set_cons_zero, List.set_cons_succ, List.getElem_toArray, List.getElem_cons_zero, List.getElem_cons_succ]
        refine take_s (i := 5) (v := ?_) rfl (by kernel_rfl) (by kernel_rfl) (by kernel_rfl) (fun _ _ _ h => h) (by rfl) ?_ hS ?_
        rotate_left
        · intro w' hLat; clear hLat; go_simp <;> with_reducible rfl
        try simp only [Act.put, List.setIfInBounds_toArray, List.set_cons_zero, List.set_cons_succ, List.getElem_toArray, List.getElem_cons_zero, List.getElem_cons_succ]
        refine take_s (i := 6) (v := ?_) rfl (by kernel_rfl) (by kernel_rfl) (by kernel_rfl) (fun _ _ _ h => h) (by rfl) ?_ hS ?_
        rotate_left
        · intro w' hLat; clear hLat; go_simp <;> with_reducible rfl
        try simp only [Act.put, List.setIfInBounds_toArray, List.set_cons_zero, List.set_cons_succ, List.getElem_toArray, List.getElem_cons_zero, List.getElem_cons_succ]
        refine take_s (i := 7) (v := ?_) rfl (by kernel_rfl) (by kernel_rfl) (by kernel_rfl) (fun _ _ _ h => h) (by rfl) ?_ hS ?_
        rotate_left
        · intro w' hLat; clear hLat; go_simp <;> with_reducible rfl
        try simp only [Act.put, List.setIfInBounds_toArray, List.set_cons_zero, List.set_cons_succ, List.getElem_toArray, List.getElem_cons_zero, List.getElem_cons_succ]
        refine take_s (i := 8) (v := .string (strOfNums bs1)) rfl (by kernel_rfl) (by kernel_rfl) (by kernel_rfl) (fun _ _ _ h => h) (by rfl) (fun w' hLat => exec_convG _ rfl rfl (HC0.out w' hLat).2.2.2.2.1) hS ?_
        try simp only [Act.put, List.setIfInBounds_toArray, List.set_cons_zero, List.set_cons_succ, List.getElem_toArray, List.getElem_cons_zero, List.getElem_cons_succ]
        refine take_s (i := 9) (v := ?_) rfl (by kernel_rfl) (by kernel_rfl) (by kernel_rfl) (fun _ _ _ h => h) (by rfl) ?_ hS ?_
        rotate_left
        · intro w' hLat; clear hLat; go_simp <;> with_reducible rfl
        try simp only [Act.put, List.setIfInBounds_toArray, List.set_cons_zero, List.set_cons_succ, List.getElem_toArray, List.getElem_cons_zero, List.getElem_cons_succ]
        refine take_s (i := 10) (v := .pointer (some ⟨xb, xo + 1 * 2, none⟩)) rfl (by kernel_rfl) (by kernel_rfl) (by kernel_rfl) (fun _ _ _ h => h) (by rfl) (fun w' hLat => exec_idxIm _ _ rfl xb xo 2 xc 1 rfl rfl (by omega)) hS ?_
        try simp only [Act.put, List.setIfInBounds_toArray, List.set_cons_zero, List.set_cons_succ, List.getElem_toArray, List.getElem_cons_zero, List.getElem_cons_succ]
        refine take_s (i := 11) (v := ?_) rfl (by kernel_rfl) (by kernel_rfl) (by kernel_rfl) (fun _ _ _ h => h) (by rfl) ?_ hS ?_
        rotate_left
        · intro w' hLat; clear hLat; go_simp <;> with_reducible rfl
        try simp only [Act.put, List.setIfInBounds_toArray, List.set_cons_zero, List.set_cons_succ, List.getElem_toArray, List.getElem_cons_zero, List.getElem_cons_succ]
        refine take_s (i := 12) (v := .slice ba1 160 bc1) rfl (by kernel_rfl) (by kernel_rfl) (by kernel_rfl) (fun _ _ _ h => h) (by rfl) (fun w' hLat => Disk.exec_load1 24 _ _ rfl Tryz.underlying24 rfl _ rfl _ (by have h9 := (HC0.out w' hLat).2.1 1 _ rfl; first | exact h9 | simpa using h9)) hS ?_
        try simp only [Act.put, List.setIfInBounds_toArray, List.set_cons_zero, List.set_cons_succ, List.getElem_toArray, List.getElem_cons_zero, List.getElem_cons_succ]
        refine take_s (i := 13) (v := .string (strOfNums bs1)) rfl (by kernel_rfl) (by kernel_rfl) (by kernel_rfl) (fun _ _ _ h => h) (by rfl) (fun w' hLat => exec_convG _ rfl rfl (HC0.out w' hLat).2.2.2.1) hS ?_
        try simp only [Act.put, List.setIfInBounds_toArray, List.set_cons_zero, List.set_cons_succ, List.getElem_toArray, List.getElem_cons_zero, List.getElem_cons_succ]
        refine take_s (i := 14) (v := .bool true) rfl (by kernel_rfl) (by kernel_rfl) (by kernel_rfl) (fun _ _ _ h => h) (by rfl) (fun w' hLat => exec_strEq _ _ _ rfl bs1 HB1.out rfl rfl) hS ?_
        try simp only [Act.put, List.setIfInBounds_toArray, List.set_cons_zero, List.set_cons_succ, List.getElem_toArray, List.getElem_cons_zero, List.getElem_cons_succ]
        refine take_s (i := 15) (v := ?_) rfl (by kernel_rfl) (by kernel_rfl) (by kernel_rfl) (fun _ _ _ h => h) (by rfl) ?_ hS ?_
        rotate_left
        · intro w' hLat; clear hLat; go_simp <;> with_reducible rfl
        try simp only [Act.put, List.setIfInBounds_toArray, List.set_cons_zero, List.set_cons_succ, List.getElem_toArray, List.getElem_cons_zero, List.getElem_cons_succ]
        refine take_s (i := 16) (v := ?_) rfl (by kernel_rfl) (by kernel_rfl) (by kernel_rfl) (fun _ _ _ h => h) (by rfl) ?_ hS ?_
        rotate_left
        · intro w' hLat; clear hLat; go_simp <;> with_reducible rfl
        try simp only [Act.put, List.setIfInBounds_toArray, List.set_cons_zero, List.set_cons_succ, List.getElem_toArray, List.getElem_cons_zero, List.getElem_cons_succ]
        refine take_s (i := 17) (v := ?_) rfl (by kernel_rfl) (by kernel_rfl) (by kernel_rfl) (fun _ _ _ h => h) (by rfl) ?_ hS ?_
        rotate_left
        · intro w' hLat; clear hLat; go_simp <;> with_reducible rfl
        try simp only [Act.put, List.setIfInBounds_toArray, List.set_cons_zero, List.set_cons_succ, List.getElem_toArray, List.getElem_cons_zero, List.getElem_cons_succ]
        refine take_s (i := 18) (v := ?_) rfl (by kernel_rfl) (by kernel_rfl) (by kernel_rfl) (fun _ _ _ h => h) (by rfl) ?_ hS ?_
        rotate_left
        · intro w' hLat; clear hLat; go_simp <;> with_reducible rfl
        try simp only [Act.put, List.setIfInBounds_toArray, List.set_cons_zero, List.set_cons_succ, List.getElem_toArray, List.getElem_cons_zero, List.getElem_cons_succ]
        refine take_s (i := 19) (v := ?_) rfl (by kernel_rfl) (by kernel_rfl) (by kernel_rfl) (fun _ _ _ h => h) (by rfl) ?_ hS ?_
        rotate_left
        · intro w' hLat; clear hLat; go_simp <;> with_reducible rfl
        try simp only [Act.put, List.setIfInBounds_toArray, List.set_cons_zero, List.set_cons_succ, List.getElem_toArray, List.getElem_cons_zero, List.getElem_cons_succ]
        refine take_s (i := 20) (v := ?_) rfl (by kernel_rfl) (by kernel_rfl) (by kernel_rfl) (fun _ _ _ h => h) (by rfl) ?_ hS ?_
        rotate_left
        · intro w' hLat; clear hLat; go_simp <;> with_reducible rfl
        try simp only [Act.put, List.setIfInBounds_toArray, List.set_cons_zero, List.set_cons_succ, List.getElem_toArray, List.getElem_cons_zero, List.getElem_cons_succ]
        refine take_s (i := 21) (v := ?_) rfl (by kernel_rfl) (by kernel_rfl) (by kernel_rfl) (fun _ _ _ h => h) (by rfl) ?_ hS ?_
        rotate_left
        · intro w' hLat; clear hLat; go_simp <;> with_reducible rfl
        try simp only [Act.put, List.setIfInBounds_toArray, List.set_cons_zero, List.set_cons_succ, List.getElem_toArray, List.getElem_cons_zero, List.getElem_cons_succ]
        refine Disk.one_keep (i := 22) (by kernel_rfl) ?_
        refine Disk.keep_step rfl (by rfl) ?_
        go_simp
        refine Calls.mono (HPE.out wd hS) ?_
        rintro e x20 ⟨rfl, rfl⟩
        refine ⟨hS, ?_⟩
        try simp only [Act.put, List.setIfInBounds_toArray, List.set_cons_zero, List.set_cons_succ, List.getElem_toArray, List.getElem_cons_zero, List.getElem_cons_succ]
        refine take_s (i := 23) (v := ?_) rfl (by kernel_rfl) (by kernel_rfl) (by kernel_rfl) (fun _ _ _ h => h) (by rfl) ?_ hS ?_
        rotate_left
        · intro w' hLat; clear hLat; go_simp <;> with_reducible rfl
        try simp only [Act.put, List.setIfInBounds_toArray, List.set_cons_zero, List.set_cons_succ, List.getElem_toArray, List.getElem_cons_zero, List.getElem_cons_succ]
        refine take_s (i := 24) (v := ?_) rfl (by kernel_rfl) (by kernel_rfl) (by kernel_rfl) (fun _ _ _ h => h) (by rfl) ?_ hS ?_
        rotate_left
        · intro w' hLat; clear hLat; go_simp <;> with_reducible rfl
        try simp only [Act.put, List.setIfInBounds_toArray, List.set_cons_zero, List.set_cons_succ, List.getElem_toArray, List.getElem_cons_zero, List.getElem_cons_succ]
        refine take_s (i := 25) (v := ?_) rfl (by kernel_rfl) (by kernel_rfl) (by kernel_rfl) (fun _ _ _ h => h) (by rfl) ?_ hS ?_
        rotate_left
        · intro w' hLat; clear hLat; go_simp <;> with_reducible rfl
        try simp only [Act.put, List.setIfInBounds_toArray, List.set_cons_zero, List.set_cons_succ, List.getElem_toArray, List.getElem_cons_zero, List.getElem_cons_succ]
        refine wpAnyH_done (by kernel_rfl) ?_ _
        have HF : Box (Below w.heap.size w wd) := ⟨(HC0.out wd hS).2.2.2.2.2⟩
        clear hS
        go_wp2
        go_ret
        exact ⟨rfl, HF.out⟩
    · refine Disk.keep_step rfl (by rfl) ?_
      unfold Oper.wp
      rw [exec_alloc 35 rfl _ zeroR]
      obtain ⟨N14, hN14⟩ : ∃ N, wd.heap.size = N := ⟨_, rfl⟩
      obtain ⟨v14, hv14⟩ : ∃ v, wd.alloc (.cells (ra zr) 35) = v := ⟨_, rfl⟩
      have hb14 : Below wd.heap.size wd v14 := by rw [← hv14]; exact (Below.refl _ _).alloc (Nat.le_refl _) _
      have hr14 : v14.heap[N14]? = some (.cells (ra zr) 35 (0, 0)) := by rw [← hv14]; exact al_at hN14
      have hl14 : x10.heap.size ≤ N14 := by rw [← hN14]; exact hS.size
      simp only [hN14, hv14]
      have hS14 : Below x10.heap.size x10 v14 := below_to hS hb14
      refine ⟨hS14, ?_⟩
      replace hS := hS14
      clear hv14 hN14 hS14
      try simp only [Act.put, List.setIfInBounds_toArray, List.set_cons_zero, List.set_cons_succ, List.getElem_toArray, List.getElem_cons_zero, List.getElem_cons_succ]
      refine Disk.one_keep (i := 9) (by kernel_rfl) ?_
      refine Disk.keep_step rfl (by rfl) ?_
      go_simp
      obtain ⟨N9, hN9⟩ : ∃ N, v14.heap.size = N := ⟨_, rfl⟩
      obtain ⟨v9, hv9⟩ : ∃ v, v14.alloc (.cells #[.int .u64 (q : Int), .slice ba0 160 bc0, .int .u64 6, .slice ba0 160 bc0] 39) = v := ⟨_, rfl⟩
      have hb9 : Below v14.heap.size v14 v9 := by rw [← hv9]; exact (Below.refl _ _).alloc (Nat.le_refl _) _
      have hr9 : v9.heap[N9]? = some (.cells #[.int .u64 (q : Int), .slice ba0 160 bc0, .int .u64 6, .slice ba0 160 bc0] 39 (0, 0)) := by rw [← hv9]; exact al_at hN9
      simp only [hN9, hv9]
      have hS9 : Below x10.heap.size x10 v9 := below_to hS hb9
      refine ⟨hS9, ?_⟩
      replace hS := hS9
      clear hv9 hN9 hS9
      try simp only [Act.put, List.setIfInBounds_toArray, List.set_cons_zero, List.set_cons_succ, List.getElem_toArray, List.getElem_cons_zero, List.getElem_cons_succ]
      refine Disk.one_keep (i := 10) (by kernel_rfl) ?_
      refine Disk.keep_step rfl (by rfl) ?_
      go_simp
      refine Calls.mono (HUB.out v9 v9 N9 hS hr9) ?_
      rintro e v10 ⟨rfl, hb10⟩
      have hS10 : Below x10.heap.size x10 v10 := below_to hS hb10
      refine ⟨hS10, ?_⟩
      replace hS := hS10
      clear hS10
      try simp only [Act.put, List.setIfInBounds_toArray, List.set_cons_zero, List.set_cons_succ, List.getElem_toArray, List.getElem_cons_zero, List.getElem_cons_succ]
      refine take_s (i := 11) (v := ?_) rfl (by kernel_rfl) (by kernel_rfl) (by kernel_rfl) (fun _ _ _ h => h) (by rfl) ?_ hS ?_
      rotate_left
      · intro w' hLat; clear hLat; go_simp <;> with_reducible rfl
      try simp only [Act.put, List.setIfInBounds_toArray, List.set_cons_zero, List.set_cons_succ, List.getElem_toArray, List.getElem_cons_zero, List.getElem_cons_succ]
      refine take_s (i := 12) (v := ?_) rfl (by kernel_rfl) (by kernel_rfl) (by kernel_rfl) (fun _ _ _ h => h) (by rfl) ?_ hS ?_
      rotate_left
      · intro w' hLat; clear hLat; go_simp <;> with_reducible rfl
      try simp only [Act.put, List.setIfInBounds_toArray, List.set_cons_zero, List.set_cons_succ, List.getElem_toArray, List.getElem_cons_zero, List.getElem_cons_succ]
      refine take_s (i := 13) (v := ?_) rfl (by kernel_rfl) (by kernel_rfl) (by kernel_rfl) (fun _ _ _ h => h) (by rfl) ?_ hS ?_
      rotate_left
      · intro w' hLat; clear hLat; go_simp <;> with_reducible rfl
      try simp only [Act.put, List.setIfInBounds_toArray, List.set_cons_zero, List.set_cons_succ, List.getElem_toArray, List.getElem_cons_zero, List.getElem_cons_succ]
      refine Disk.one_keep (i := 15) (by kernel_rfl) ?_
      refine Disk.keep_step rfl (by rfl) ?_
      have hrr : v10.heap[N14]? = some (.cells (ra zr) 35 (0, 0)) := ((hb10.block N14 (Nat.lt_of_lt_of_le (Array.getElem?_eq_some_iff.1 hr14).1 hb9.size)).trans ((hb9.block N14 (Array.getElem?_eq_some_iff.1 hr14).1).trans hr14))
      refine wp_store_mid 35 (.tmp 24) (.tmp 103) rfl N14 0 RZ rfl rfl (there_row hrr (by rw [HRI.out.2.1]; omega)) HRI.out.1 HRI.out.2.2.1 ?_
      obtain ⟨y, hy⟩ : ∃ y, v10.setCells N14 0 RZ.toList = y := ⟨_, rfl⟩
      rw [hy]
      have hby : Below x10.heap.size x10 y := below_but hS (by rw [← hy]; exact Disk.but_setCells _ _ _ _ _ (But.refl _ _)) hl14
      refine ⟨hby, ?_⟩
      replace hS := hby
      clear hby
      try simp only [Act.put, List.getElem_toArray, List.getElem_cons_zero, List.getElem_cons_succ]
      refine take_s (i := 16) (v := ?_) rfl (by kernel_rfl) (by kernel_rfl) (by kernel_rfl) (fun _ _ _ h => h) (by rfl) ?_ hS ?_
      rotate_left
      · intro w' hLat; clear hLat; go_simp <;> with_reducible rfl
      try simp only [Act.put, List.setIfInBounds_toArray, List.set_cons_zero, List.set_cons_succ, List.getElem_toArray, List.getElem_cons_zero, List.getElem_cons_succ]
      refine wpAnyH_done (by kernel_rfl) ?_ _
      have HE : Box (Below x10.heap.size x10 y) := ⟨hS⟩
      clear hS hy hrr
      go_upto_region 17 with fail
      refine Disk.begin_keep (S := fun x => Below x10.heap.size x10 x) (by kernel_rfl) (fun wd hwd => ?_)
      have hS : Below x10.heap.size x10 wd := below_to HE.out (by rw [hwd]; exact (Below.refl _ _).drew)
      clear hwd
      refine take_s (i := 0) (v := ?_) rfl (by kernel_rfl) (by kernel_rfl) (by kernel_rfl) (fun _ _ _ h => h) (by rfl) ?_ hS ?_
      rotate_left
      · intro w' hLat; clear hLat; go_simp <;> with_reducible rfl
      try simp only [Act.put, List.setIfInBounds_toArray, List.set_cons_zero, List.set_cons_succ, List.getElem_toArray, List.getElem_cons_zero]
      refine take_s (i := 1) (v := ?_) rfl (by kernel_rfl) (by kernel_rfl) (by kernel_rfl) (fun _ _ _ h => h) (by rfl) ?_ hS ?_
      rotate_left
      · intro w' hLat; clear hLat; go_simp <;> with_reducible rfl
      try simp only [Act.put, List.setIfInBounds_toArray, List.set_cons_zero, List.set_cons_succ, List.getElem_toArray, List.getElem_cons_zero, List.getElem_cons_succ]
      refine take_s (i := 2) (v := ?_) rfl (by kernel_rfl) (by kernel_rfl) (by kernel_rfl) (fun _ _ _ h => h) (by rfl) ?_ hS ?_
      rotate_left
      · intro w' hLat; clear hLat; go_simp <;> with_reducible rfl
      try simp only [Act.put, List.setIfInBounds_toArray, List.set_cons_zero, List.set_cons_succ, List.getElem_toArray, List.getElem_cons_zero, List.getElem_cons_succ]
      refine take_s (i := 3) (v := ?_) rfl (by kernel_rfl) (by kernel_rfl) (by kernel_rfl) (fun _ _ _ h => h) (by rfl) ?_ hS ?_
      rotate_left
      · intro w' hLat; clear hLat; go_simp <;> with_reducible rfl
      try simp only [Act.put, List.setIfInBounds_toArray, List.set_cons_zero, List.set_cons_succ, List.getElem_toArray, List.getElem_cons_zero, List.getElem_cons_succ]
      refine take_s (i := 4) (v := ?_) rfl (by kernel_rfl) (by kernel_rfl) (by kernel_rfl) (fun _ _ _ h => h) (by rfl) ?_ hS ?_
      rotate_left
      · intro w' hLat; clear hLat; go_simp <;> with_reducible rfl
      try simp only [Act.put, List.setIfInBounds_toArray, List.set_cons_zero, List.set_cons_succ, List.getElem_toArray, List.getElem_cons_zero, List.getElem_cons_succ]
      refine take_s (i := 5) (v := ?_) rfl (by kernel_rfl) (by kernel_rfl) (by kernel_rfl) (fun _ _ _ h => h) (by rfl) ?_ hS ?_
      rotate_left
      · intro w' hLat; clear hLat; go_simp <;> with_reducible rfl
      try simp only [Act.put, List.setIfInBounds_toArray, List.set_cons_zero, List.set_cons_succ, List.getElem_toArray, List.getElem_cons_zero, List.getElem_cons_succ]
      refine take_s (i := 6) (v := ?_) rfl (by kernel_rfl) (by kernel_rfl) (by kernel_rfl) (fun _ _ _ h => h) (by rfl) ?_ hS ?_
      rotate_left
      · intro w' hLat; clear hLat; go_simp <;> with_reducible rfl
      try simp only [Act.put, List.setIfInBounds_toArray, List.set_cons_zero, List.set_cons_succ, List.getElem_toArray, List.getElem_cons_zero, List.getElem_cons_succ]
      refine take_s (i := 7) (v := ?_) rfl (by kernel_rfl) (by kernel_rfl) (by kernel_rfl) (fun _ _ _ h => h) (by rfl) ?_ hS ?_
      rotate_left
      · intro w' hLat; clear hLat; go_simp <;> with_reducible rfl
      try simp only [Act.put, List.setIfInBounds_toArray, List.set_cons_zero, List.set_cons_succ, List.getElem_toArray, List.getElem_cons_zero, List.getElem_cons_succ]
      refine take_s (i := 8) (v := .string (strOfNums bs1)) rfl (by kernel_rfl) (by kernel_rfl) (by kernel_rfl) (fun _ _ _ h => h) (by rfl) (fun w' hLat => exec_convG _ rfl rfl (HC0.out w' hLat).2.2.2.2.1) hS ?_
      try simp only [Act.put, List.setIfInBounds_toArray, List.set_cons_zero, List.set_cons_succ, List.getElem_toArray, List.getElem_cons_zero, List.getElem_cons_succ]
      refine take_s (i := 9) (v := ?_) rfl (by kernel_rfl) (by kernel_rfl) (by kernel_rfl) (fun _ _ _ h => h) (by rfl) ?_ hS ?_
      rotate_left
      · intro w' hLat; clear hLat; go_simp <;> with_reducible rfl
      try simp only [Act.put, List.setIfInBounds_toArray, List.set_cons_zero, List.set_cons_succ, List.getElem_toArray, List.getElem_cons_zero, List.getElem_cons_succ]
      refine take_s (i := 10) (v := .pointer (some ⟨xb, xo + 1 * 2, none⟩)) rfl (by kernel_rfl) (by kernel_rfl) (by kernel_rfl) (fun _ _ _ h => h) (by rfl) (fun w' hLat => exec_idxIm _ _ rfl xb xo 2 xc 1 rfl rfl (by omega)) hS ?_
      try simp only [Act.put, List.setIfInBounds_toArray, List.set_cons_zero, List.set_cons_succ, List.getElem_toArray, List.getElem_cons_zero, List.getElem_cons_succ]
      refine take_s (i := 11) (v := ?_) rfl (by kernel_rfl) (by kernel_rfl) (by kernel_rfl) (fun _ _ _ h => h) (by rfl) ?_ hS ?_
      rotate_left
      · intro w' hLat; clear hLat; go_simp <;> with_reducible rfl
      try simp only [Act.put, List.setIfInBounds_toArray, List.set_cons_zero, List.set_cons_succ, List.getElem_toArray, List.getElem_cons_zero, List.getElem_cons_succ]
      refine take_s (i := 12) (v := .slice ba1 160 bc1) rfl (by kernel_rfl) (by kernel_rfl) (by kernel_rfl) (fun _ _ _ h => h) (by rfl) (fun w' hLat => Disk.exec_load1 24 _ _ rfl Tryz.underlying24 rfl _ rfl _ (by have h9 := (HC0.out w' hLat).2.1 1 _ rfl; first | exact h9 | simpa using h9)) hS ?_
      try simp only [Act.put, List.setIfInBounds_toArray, List.set_cons_zero, List.set_cons_succ, List.getElem_toArray, List.getElem_cons_zero, List.getElem_cons_succ]
      refine take_s (i := 13) (v := .string (strOfNums bs1)) rfl (by kernel_rfl) (by kernel_rfl) (by kernel_rfl) (fun _ _ _ h => h) (by rfl) (fun w' hLat => exec_convG _ rfl rfl (HC0.out w' hLat).2.2.2.1) hS ?_
      try simp only [Act.put, List.setIfInBounds_toArray, List.set_cons_zero, List.set_cons_succ, List.getElem_toArray, List.getElem_cons_zero, List.getElem_cons_succ]
      refine take_s (i := 14) (v := .bool true) rfl (by kernel_rfl) (by kernel_rfl) (by kernel_rfl) (fun _ _ _ h => h) (by rfl) (fun w' hLat => exec_strEq _ _ _ rfl bs1 HB1.out rfl rfl) hS ?_
      try simp only [Act.put, List.setIfInBounds_toArray, List.set_cons_zero, List.set_cons_succ, List.getElem_toArray, List.getElem_cons_zero, List.getElem_cons_succ]
      refine take_s (i := 15) (v := ?_) rfl (by kernel_rfl) (by kernel_rfl) (by kernel_rfl) (fun _ _ _ h => h) (by rfl) ?_ hS ?_
      rotate_left
      · intro w' hLat; clear hLat; go_simp <;> with_reducible rfl
      try simp only [Act.put, List.setIfInBounds_toArray, List.set_cons_zero, List.set_cons_succ, List.getElem_toArray, List.getElem_cons_zero, List.getElem_cons_succ]
      refine take_s (i := 16) (v := ?_) rfl (by kernel_rfl) (by kernel_rfl) (by kernel_rfl) (fun _ _ _ h => h) (by rfl) ?_ hS ?_
      rotate_left
      · intro w' hLat; clear hLat; go_simp <;> with_reducible rfl
      try simp only [Act.put, List.setIfInBounds_toArray, List.set_cons_zero, List.set_cons_succ, List.getElem_toArray, List.getElem_cons_zero, List.getElem_cons_succ]
      refine take_s (i := 17) (v := ?_) rfl (by kernel_rfl) (by kernel_rfl) (by kernel_rfl) (fun _ _ _ h => h) (by rfl) ?_ hS ?_
      rotate_left
      · intro w' hLat; clear hLat; go_simp <;> with_reducible rfl
      try simp only [Act.put, List.setIfInBounds_toArray, List.set_cons_zero, List.set_cons_succ, List.getElem_toArray, List.getElem_cons_zero, List.getElem_cons_succ]
      refine take_s (i := 18) (v := ?_) rfl (by kernel_rfl) (by kernel_rfl) (by kernel_rfl) (fun _ _ _ h => h) (by rfl) ?_ hS ?_
      rotate_left
      · intro w' hLat; clear hLat; go_simp <;> with_reducible rfl
      try simp only [Act.put, List.setIfInBounds_toArray, List.set_cons_zero, List.set_cons_succ, List.getElem_toArray, List.getElem_cons_zero, List.getElem_cons_succ]
      refine take_s (i := 19) (v := ?_) rfl (by kernel_rfl) (by kernel_rfl) (by kernel_rfl) (fun _ _ _ h => h) (by rfl) ?_ hS ?_
      rotate_left
      · intro w' hLat; clear hLat; go_simp <;> with_reducible rfl
      try simp only [Act.put, List.setIfInBounds_toArray, List.set_cons_zero, List.set_cons_succ, List.getElem_toArray, List.getElem_cons_zero, List.getElem_cons_succ]
      refine take_s (i := 20) (v := ?_) rfl (by kernel_rfl) (by kernel_rfl) (by kernel_rfl) (fun _ _ _ h => h) (by rfl) ?_ hS ?_
      rotate_left
      · intro w' hLat; clear hLat; go_simp <;> with_reducible rfl
      try simp only [Act.put, List.setIfInBounds_toArray, List.set_cons_zero, List.set_cons_succ, List.getElem_toArray, List.getElem_cons_zero, List.getElem_cons_succ]
      refine take_s (i := 21) (v := ?_) rfl (by kernel_rfl) (by kernel_rfl) (by kernel_rfl) (fun _ _ _ h => h) (by rfl) ?_ hS ?_
      rotate_left
      · intro w' hLat; clear hLat; go_simp <;> with_reducible rfl
      try simp only [Act.put, List.setIfInBounds_toArray, List.set_cons_zero, List.set_cons_succ, List.getElem_toArray, List.getElem_cons_zero, List.getElem_cons_succ]
      refine Disk.one_keep (i := 22) (by kernel_rfl) ?_
      refine Disk.keep_step rfl (by rfl) ?_
      go_simp
      refine Calls.mono (HPE.out wd hS) ?_
      rintro e x20 ⟨rfl, rfl⟩
      refine ⟨hS, ?_⟩
      try simp only [Act.put, List.setIfInBounds_toArray, List.set_cons_zero, List.set_cons_succ, List.getElem_toArray, List.getElem_cons_zero, List.getElem_cons_succ]
      refine take_s (i := 23) (v := ?_) rfl (by kernel_rfl) (by kernel_rfl) (by kernel_rfl) (fun _ _ _ h => h) (by rfl) ?_ hS ?_
      rotate_left
      · intro w' hLat; clear hLat; go_simp <;> with_reducible rfl
      try simp only [Act.put, List.setIfInBounds_toArray, List.set_cons_zero, List.set_cons_succ, List.getElem_toArray, List.getElem_cons_zero, List.getElem_cons_succ]
      refine take_s (i := 24) (v := ?_) rfl (by kernel_rfl) (by kernel_rfl) (by kernel_rfl) (fun _ _ _ h => h) (by rfl) ?_ hS ?_
      rotate_left
      · intro w' hLat; clear hLat; go_simp <;> with_reducible rfl
      try simp only [Act.put, List.setIfInBounds_toArray, List.set_cons_zero, List.set_cons_succ, List.getElem_toArray, List.getElem_cons_zero, List.getElem_cons_succ]
      refine take_s (i := 25) (v := ?_) rfl (by kernel_rfl) (by kernel_rfl) (by kernel_rfl) (fun _ _ _ h => h) (by rfl) ?_ hS ?_
      rotate_left
      · intro w' hLat; clear hLat; go_simp <;> with_reducible rfl
      try simp only [Act.put, List.setIfInBounds_toArray, List.set_cons_zero, List.set_cons_succ, List.getElem_toArray, List.getElem_cons_zero, List.getElem_cons_succ]
      refine wpAnyH_done (by kernel_rfl) ?_ _
      have HF : Box (Below w.heap.size w wd) := ⟨(HC0.out wd hS).2.2.2.2.2⟩
      clear hS
      go_wp2
      go_ret
      exact ⟨rfl, HF.out⟩
end Go.Proofs.YtmocfbglmahhjabGreatDoor
