/-
  What level, place, path and topItem of package vault answer, of a vault in memory. And what follows it.
-/
import Derived.Test.YthbbijaikcmaeaaGreatDoorX21
import Derived.OrdersIn
import Derived.OrdersHeld
import Derived.RangeFuncCalls
import Derived.Test.YthbbijaikcmaeaaGreatDoorX08
namespace Go.Proofs.YthbbijaikcmaeaaGreatDoor
set_option maxRecDepth 100000
set_option linter.unusedVariables false
set_option maxRecDepth 100000
open Go.RowKit Plain Go.Proofs.YthbbijaikcmaeaaGreatDoor.Shap.Plain
theorem lvl_itm (n l i : Nat) (h1 : 1 ≤ n) (h2 : n ≤ 1024) (hl : l ≤ topL n) (hi : i < wd n l) : Shap.Lvl (wid n) (wid n).length (itm n l i : Int) (l : Int) (i : Int) 0 := by
  have hb := topL_bd n h1 h2
  refine .inl ⟨l, by omega, ?_, ?_, rfl, ?_, rfl⟩
  · rw [wid_off n h1 h2 l (by omega)]; unfold itm; omega
  · rw [wid_off n h1 h2 (l + 1) (by omega), off]; unfold itm; omega
  · rw [wid_off n h1 h2 l (by omega)]; unfold itm; omega
theorem itm_itm (n l i : Nat) (h1 : 1 ≤ n) (h2 : n ≤ 1024) (hl : l ≤ topL n) (hi : i < wd n l) : Shap.Itm (wid n) (wid n).length (l : Int) (i : Int) (itm n l i : Int) 0 := by
  have hb := topL_bd n h1 h2
  refine .inl ⟨l, rfl, by omega, by omega, ?_, ?_, rfl⟩
  · rw [wid_wd n h1 h2 l (by omega)]; omega
  · rw [wid_off n h1 h2 l (by omega)]; unfold itm; omega
theorem itm_none (n l i : Nat) (h1 : 1 ≤ n) (h2 : n ≤ 1024) (hl : l ≤ topL n) (hi : wd n l ≤ i) : Shap.Itm (wid n) (wid n).length (l : Int) (i : Int) 0 12 := by
  have hb := topL_bd n h1 h2
  refine .inr ⟨.inr (.inr (.inr ⟨l, rfl, by omega, by omega, ?_⟩)), rfl, rfl⟩
  rw [wid_wd n h1 h2 l (by omega)]; omega
theorem plc_itm (n l i s : Nat) (h1 : 1 ≤ n) (h2 : n ≤ 1024) (hl : l ≤ topL n) (hi : i < wd n l) (hs : s < 2) : Shap.Plc (wid n) (wid n).length (itm n l i : Int) (s : Int) ((2 * itm n l i + s : Nat) : Int) 0 := by
  have := itm_lt n (topL n) l i hl hi
  refine .inl ⟨by omega, ?_, by omega, by omega, by omega, rfl⟩
  rw [wid_items n h1 h2]; omega
section
variable {w0 w : World} {V D : Nat} {fp : Nat → Prop} {v : Vt} {d : Disk.Dk} {sa : Option Addr} {sc : Nat}
theorem level_v (C : VC w0 w V D fp v d sa sc) (l i : Nat) (hl : l ≤ topL v.n) (hi : i < wd v.n l) :
    Calls Tryz.prog 57 #[.pointer (some ⟨V, 0, none⟩), .int .i64 (itm v.n l i : Nat)] w fun e w' => e = .returned (.int .i64 (l : Int)) ∧ Below w.heap.size w w' := by
  have hb := itm_lt v.n (topL v.n) l i hl hi
  have ho := off_le v.n C.ok.lo C.ok.hi
  have HC : Box (Calls Tryz.prog 83 #[.agg #[.slice sa (wid v.n).length sc], .int .i64 (itm v.n l i : Nat)] w fun e w' => e = .returned (.tuple #[.int .i64 (l : Int), .int .i64 (i : Int), .int .i64 0]) ∧ Below w.heap.size w w') := ⟨Shap.level_any sa (wid v.n).length sc _ _ _ _ (wid v.n) w C.ints (shp_wid v.n C.ok.lo C.ok.hi) (by omega) (lvl_itm v.n l i C.ok.lo C.ok.hi hl hi)⟩
  have hR : Box (w.rangeAt V 34 [.slice sa (wid v.n).length sc]) := ⟨C.rd.shp⟩
  clear hl hi hb ho
  go_enter Tryz.func57, Tryz.ntmps57
  go_wp2_with (first
    | (go_at_call 83; refine HC.out.mono ?_; rintro e w' ⟨rfl, hb⟩)
    | (refine atLoad 74 ?_; refine wpList_ldMid rfl 74 _ _ rfl Tryz.underlying74 rfl V 34 rfl [.slice sa (wid v.n).length sc] infoShp hR.out ?_))
  go_ret
  exact ⟨rfl, hb⟩
theorem place_v (C : VC w0 w V D fp v d sa sc) (l i s : Nat) (hl : l ≤ topL v.n) (hi : i < wd v.n l) (hs : s < 2) :
    Calls Tryz.prog 51 #[.pointer (some ⟨V, 0, none⟩), .int .i64 (itm v.n l i : Nat), .int .i64 (s : Int)] w fun e w' => e = .returned (.int .i64 (2 * itm v.n l i + s : Nat)) ∧ Below w.heap.size w w' := by
  have HC : Box (Calls Tryz.prog 76 #[.agg #[.slice sa (wid v.n).length sc], .int .i64 (itm v.n l i : Nat), .int .i64 (s : Int)] w fun e w' => e = .returned (.tuple #[.int .i64 (2 * itm v.n l i + s : Nat), .int .i64 0]) ∧ Below w.heap.size w w') := ⟨Shap.place_any sa (wid v.n).length sc _ _ _ _ (wid v.n) w C.ints (shp_wid v.n C.ok.lo C.ok.hi) (plc_itm v.n l i s C.ok.lo C.ok.hi hl hi hs)⟩
  have hR : Box (w.rangeAt V 34 [.slice sa (wid v.n).length sc]) := ⟨C.rd.shp⟩
  clear hl hi hs
  generalize 2 * itm v.n l i + s = p at *
  go_enter Tryz.func51, Tryz.ntmps51
  go_wp2_with (first
    | (go_at_call 76; refine HC.out.mono ?_; rintro e w' ⟨rfl, hb⟩)
    | (refine atLoad 74 ?_; refine wpList_ldMid rfl 74 _ _ rfl Tryz.underlying74 rfl V 34 rfl [.slice sa (wid v.n).length sc] infoShp hR.out ?_))
  go_ret
  exact ⟨rfl, hb⟩
theorem topItem_v (C : VC w0 w V D fp v d sa sc) :
    Calls Tryz.prog 31 #[.pointer (some ⟨V, 0, none⟩)] w fun e w' => e = .returned (.int .i64 (itm v.n (topL v.n) 0 : Nat)) ∧ Below w.heap.size w w' := by
  have HC : Box _ := ⟨items_of v.n sa sc w C.ok.lo C.ok.hi C.ints⟩
  have hR : Box (w.rangeAt V 34 [.slice sa (wid v.n).length sc]) := ⟨C.rd.shp⟩
  have ho := off_le v.n C.ok.lo C.ok.hi
  have e : itm v.n (topL v.n) 0 + 1 = off v.n (topL v.n + 1) := by
    rw [off, topL_one v.n C.ok.lo C.ok.hi]; rfl
  have hw : IntKind.i64.wrap (((off v.n (topL v.n + 1) : Nat) : Int) - 1) = ((itm v.n (topL v.n) 0 : Nat) : Int) := by rw [IntKind.wrap_i64]; omega
  clear e ho
  generalize itm v.n (topL v.n) 0 = p at *
  go_enter Tryz.func31, Tryz.ntmps31
  go_wp2_with (first
    | (go_at_call 46; refine HC.out.mono ?_; rintro e w' ⟨rfl, hb⟩)
    | (refine atLoad 74 ?_; refine wpList_ldMid rfl 74 _ _ rfl Tryz.underlying74 rfl V 34 rfl [.slice sa (wid v.n).length sc] infoShp hR.out ?_))
  go_ret
  exact ⟨rfl, hb⟩
theorem path_v (C : VC w0 w V D fp v d sa sc) (q : Nat) (hq : q < v.n) :
    Calls Tryz.prog 39 #[.pointer (some ⟨V, 0, none⟩), .int .u64 (q : Int)] w fun e w' => ∃ a cap, e = .returned (.slice a (wid v.n).length cap) ∧ Shap.Ints w' a (wid v.n).length (pth (wid v.n) q (wid v.n).length) ∧ Below w.heap.size w w' ∧ (wid v.n).length ≤ cap ∧ cap ≤ maxLen ∧ ∀ ad, a = some ad → w.heap.size ≤ ad.block := by
  have hi := C.ok.hi
  have HC : Box _ := ⟨Shap.path_ok sa (wid v.n).length sc q (wid v.n) w C.ints (shp_wid v.n C.ok.lo C.ok.hi) (by rw [wid_zero]; omega)⟩
  have hR : Box (w.rangeAt V 34 [.slice sa (wid v.n).length sc]) := ⟨C.rd.shp⟩
  have hw : IntKind.i64.wrap (q : Int) = (q : Int) := by rw [IntKind.wrap_i64]; omega
  clear hq hi
  go_enter Tryz.func39, Tryz.ntmps39
  go_wp2_with (first
    | (go_at_call 60; refine Calls.mono HC.out ?_; rintro e w' ⟨a, cap, rfl, hI, hb, hc1, hc2, hc3⟩; have HH : Box (Shap.Ints w' a (wid v.n).length (pth (wid v.n) q (wid v.n).length) ∧ Below w.heap.size w w' ∧ (wid v.n).length ≤ cap ∧ cap ≤ maxLen ∧ ∀ ad, a = some ad → w.heap.size ≤ ad.block) := ⟨hI, hb, hc1, hc2, hc3⟩; clear hI hb hc1 hc2 hc3)
    | (refine atLoad 74 ?_; refine wpList_ldMid rfl 74 _ _ rfl Tryz.underlying74 rfl V 34 rfl [.slice sa (wid v.n).length sc] infoShp hR.out ?_))
  go_ret
  exact ⟨a, cap, rfl, HH.out⟩
end
end Go.Proofs.YthbbijaikcmaeaaGreatDoor
namespace Go.Proofs.YthbbijaikcmaeaaGreatDoor
set_option maxRecDepth 100000
set_option linter.unusedVariables false
open Go.RowKit Plain Go.Proofs.YthbbijaikcmaeaaGreatDoor.Shap.Plain
def Xd : Dsk Disk.Dk where
  rd := fun (d : Disk.Dk) (p : Nat) => if d.down = true then (d, 13, []) else (Disk.rdOk d (p : Int), 0, Disk.lat d p)
  wr := fun (d : Disk.Dk) (p : Nat) (S : List Int) => if d.down = true then (d, 13) else if d.st = true ∧ d.left = 0 then (({ d with down := true } : Disk.Dk), 13) else (Disk.wrOk d p S, 0)
open Classical in
noncomputable def Yk (K : List Int) : Plain.Sys where
  sl p v B := Seal.sl K (p : Int) v B
  hs l p S := dsha (dg (l : Int) (p : Int) S)
  op p S := if Seal.Fit S 160 then some (num S 0 8, Seal.op K (p : Int) S 160) else none
  back p v B hB hb h1 h2 := by
    rw [if_pos (Seal.sl_fit K p v B 160 hB (by omega) (by omega) (by omega) (by omega)), Seal.sl_num K p v B 160 hB (by omega) (by omega), Seal.op_sl K p v B 160 hB hb (by omega) (by omega)]
  hl l p S := ⟨length_dsha _, byt_dsha _⟩
theorem range_below {w w' : World} {b o : Nat} {cs : List Value} (hb : Below w.heap.size w w') (h : w.rangeAt b o cs) (hlt : b < w.heap.size) : w'.rangeAt b o cs := fun j v hv => (hb.cell (p := ⟨b, o + j, none⟩) hlt).trans (h j v hv)
theorem exec_u32 {o : Oper} {ρ : Operand → Value} {w' : World} (x : Operand) (ho : o.op = .convert 3 112 x) (p : Nat) (hp : p < 4294967296) (hx : ρ x = .int .i64 (p : Int)) : (execOp ρ o).run Tryz.prog w' = .ok (.value (.int .u32 (p : Int))) w' := by
  have hw : IntKind.u32.wrap (p : Int) = (p : Int) := by rw [IntKind.wrap_u32]; omega
  go_simp
theorem exec_make160 {o : Oper} {ρ : Operand → Value} {w : World} (l c : Operand) (ho : o.op = .makeSlice 38 l c) (hl : ρ l = .int .i64 160) (hc : ρ c = .int .i64 160) :
    (execOp ρ o).run Tryz.prog w = .ok (.value (.slice (some ⟨w.heap.size, 0, none⟩) 160 160)) (w.alloc (.cells (u8s y160) 5)) := by
  have := Disk.exec_make (P := Tryz.prog) (o := o) (ρ := ρ) (w := w) 38 5 l c ho (.int .u8 0) 1 1 Tryz.underlying38 info5 160 hl hc (by decide) (by decide)
  have e : madeCells (Value.int .u8 0).cells (160 * 1) = u8s y160 := Disk.made_bytes 160
  rw [e] at this
  exact this
def GetUp (w0 w : World) (V D : Nat) (fp : Nat → Prop) (v : Vt) (d : Disk.Dk) (sa : Option Addr) (sc : Nat) (c : Bool) (oe u s : Int) (m : Nat) (B : List Int) (e : Ending) (w' : World) : Prop :=
  ∃ fp' a', VC w0 w' V D fp' v d sa sc ∧ Fw No w w' fp fp' ∧
    ((c = true ∧ oe = 0 ∧ u = s / 2 ∧ e = .returned (.tuple #[.slice a' m m, .int .i64 0]) ∧ Bytes w' a' m B) ∨
     (¬ (c = true ∧ oe = 0 ∧ u = s / 2) ∧ e = .returned (.tuple #[.slice none 0 0, .int .i64 14])))
set_option maxHeartbeats 4000000 in
theorem get_up {w0 w : World} {V D : Nat} {fp : Nat → Prop} {v : Vt} {d : Disk.Dk} {sa : Option Addr} {sc : Nat} (C : VC w0 w V D fp v d sa sc) (l i : Nat) (hl : l ≤ topL v.n) (hi : i < wd v.n l) (r : Rf) (hr : OkR r) (h0 : r.s ≠ 0) (hd : d.down = false) (hop : d.ops.length < 1000000) (hup : d.uw.length < 1000000)
    (p : Nat) (hp : pc v.n l i r = p) (c : Bool) (hc : c = decide (r.d = dsha (dg (l : Int) (p : Int) (Disk.lat d p)))) (u oe : Int) (m : Nat) (B : List Int)
    (hO : ∀ x a, Seal.Tab x → Bytes x a 192 (Disk.lat d p) → Calls Tryz.prog 67 #[.agg (u8s v.key), .int .u32 (p : Int), .slice a 192 192, .int .i64 160] x fun e w' => ∃ a', e = .returned (.tuple #[.int .u64 u, .slice a' m m, .int .i64 oe]) ∧ Bytes w' a' m B ∧ Below x.heap.size x w') :
    Calls Tryz.prog 43 #[.pointer (some ⟨V, 0, none⟩), .int .i64 (itm v.n l i : Nat), .agg (ra r)] w fun e w' => GetUp w0 w V D fp v (Disk.rdOk d (p : Int)) sa sc c oe u r.s m B e w' := by
  obtain ⟨S, hS⟩ : ∃ S, w.heap.size = S := ⟨_, rfl⟩
  obtain ⟨w1, hw1⟩ : ∃ w1, w.alloc (.cells (ra r) 36) = w1 := ⟨_, rfl⟩
  have hb1 : Below w.heap.size w w1 := by rw [← hw1]; exact (Below.refl _ _).alloc (Nat.le_refl _) _
  have hr1 : w1.heap[S]? = some (.cells (ra r) 36 (0, 0)) := by rw [← hw1]; exact al_at hS
  have C1 := C.below hb1
  have hS1 : S < w1.heap.size := (Array.getElem?_eq_some_iff.1 hr1).1
  have hn := itm_lt v.n (topL v.n) l i hl hi
  have hpn : p < d.n := by have := C.fit; have := sd_lt r; rw [← hp]; unfold pc; omega
  have hp32 : p < 4294967296 := by have := off_le v.n C.ok.lo C.ok.hi; have := sd_lt r; rw [← hp]; unfold pc; omega
  have HI : Box ((Tryz.prog.info? 36).map (·.size) = some (rc r).length) := ⟨by rw [show (rc r).length = 33 by simp [rc, hr.ld]]; exact infoRef⟩
  have HP : Box (p < 4294967296) := ⟨hp32⟩
  have hnfS : ¬ fp S := fun hf => by have := C.cx.hi S hf; omega
  have HSd : Box (∀ x, Calls Tryz.prog 64 #[.int .u64 r.s] x fun e w' => e = .returned (.int .i64 ((sd r : Nat) : Int)) ∧ x = w') := ⟨fun x => by
    have := side_any r.s x hr.hs
    have e : ((sd r : Nat) : Int) = r.s % 2 := by unfold sd; omega
    rw [e]; exact this⟩
  have HV : Box (∀ x, Calls Tryz.prog 68 #[.int .u64 r.s] x fun e w' => e = .returned (.int .u64 (r.s / 2)) ∧ x = w') := ⟨fun x => version_any r.s x hr.hs⟩
  have CP : Box (Calls Tryz.prog 51 #[.pointer (some ⟨V, 0, none⟩), .int .i64 (itm v.n l i : Nat), .int .i64 ((sd r : Nat) : Int)] w1 fun e w' => e = .returned (.int .i64 (p : Int)) ∧ Below w1.heap.size w1 w') := ⟨by
    have := place_v C1 l i (sd r) hl hi (sd_lt r)
    rw [← hp]; exact this⟩
  have hstamp : ∀ x : World, x.heap[S]? = some (.cells (ra r) 36 (0, 0)) → x.cell? ⟨S, 32, none⟩ = some (.int .u64 r.s) ∧ x.rangeAt S 0 (rc r) := fun x hx => by
    refine ⟨?_, fun j q hq => ?_⟩
    · rw [cell_of_row _ _ _ _ _ _ hx]
      simp [ra, rc, hr.ld]
    · rw [cell_of_row _ _ _ _ _ _ hx, Nat.zero_add]
      simpa [ra] using hq
  have CR : Box (∀ x, Below w1.heap.size w1 x → Calls Tryz.prog 65 #[.pointer (some ⟨D, 0, none⟩), .int .i64 (p : Int)] x fun e w' =>
      ∃ R fp', e = .returned (.tuple #[.slice (some ⟨R, 0, none⟩) 192 192, .int .i64 0]) ∧ VC w0 w' V D fp' v (Disk.rdOk d (p : Int)) sa sc ∧ Fw No w w' fp fp' ∧ Bytes w' (some ⟨R, 0, none⟩) 192 (Disk.lat d p) ∧ w'.heap[S]? = some (.cells (ra r) 36 (0, 0))) := ⟨fun x hx => by
    have Cx := C1.below hx
    refine (Disk.read_cx Cx.cx p hd hpn hop hup).mono ?_
    rintro e w' ⟨R, f1, rfl, h1, h2, h3, h4, h5, h6⟩
    obtain ⟨f2, g1, g2, g3⟩ := Cx.fol h1 h2 rfl
    exact ⟨R, f2, rfl, g1, (Fw.below No fp (below_to hb1 hx)).trans g2, h3.bytes h6 192 h5, (h2.t.block S (Nat.lt_of_lt_of_le hS1 hx.size) hnfS).trans ((hx.block S hS1).trans hr1)⟩⟩
  have f1 := (hstamp w1 hr1).1
  have fD : Box (∀ x, Below w1.heap.size w1 x → x.cell? ⟨V, 0, none⟩ = some (.pointer (some ⟨D, 0, none⟩))) := ⟨fun x hx => (C1.below hx).rd.disk⟩
  have hq : (r.s == 0) = false := by simpa using h0
  have HCR : Box (∀ (x : World), VC w0 x V D fp v d sa sc → True) := ⟨fun _ _ => trivial⟩
  have HLV : Box (∀ fp' x, VC w0 x V D fp' v (Disk.rdOk d (p : Int)) sa sc → Calls Tryz.prog 57 #[.pointer (some ⟨V, 0, none⟩), .int .i64 (itm v.n l i : Nat)] x fun e w' => e = .returned (.int .i64 (l : Int)) ∧ Below x.heap.size x w') := ⟨fun fp' x Cx => level_v Cx l i hl hi⟩
  have HCK : Box (∀ R x, Dig.Tabs x → Bytes x (some ⟨R, 0, none⟩) 192 (Disk.lat d p) → Calls Tryz.prog 66 #[.agg (ra r), .int .i64 (l : Int), .int .u32 (p : Int), .slice (some ⟨R, 0, none⟩) 192 192] x fun e w' => e = .returned (.bool c) ∧ Below x.heap.size x w') := ⟨fun R x hT hB => by
    rw [hc]; exact check_any r l p _ 192 192 _ x hr hT (by omega) hB (by omega) (by omega) (by omega)⟩
  have HST : Box (∀ x : World, x.heap[S]? = some (.cells (ra r) 36 (0, 0)) → x.cell? ⟨S, 32, none⟩ = some (.int .u64 r.s) ∧ x.rangeAt S 0 (rc r)) := ⟨hstamp⟩
  have HSw : Box (w.heap.size ≤ S) := ⟨by omega⟩
  have HO : Box _ := ⟨hO⟩
  clear hO hc hp h0 hd hop hup hpn hp32 hl hi hn hr1 hb1 C1 hS1 hnfS hstamp hr HCR
  have HN : Box (w.heap.size = S) := ⟨hS⟩
  clear hS
  go_enter Tryz.func43, Tryz.ntmps43
  go_upto_region 1 with fail
  rw [HN.out]
  go_upto_region 7 with (first
    | (go_at_call 64; refine (HSd.out _).mono ?_; rintro e w' ⟨rfl, rfl⟩)
    | (go_at_call 51; refine CP.out.mono ?_; rintro e x2 ⟨rfl, hb2⟩; have fD2 := fD.out x2 hb2; have HB2 : Box (Below w1.heap.size w1 x2) := ⟨hb2⟩; clear hb2)
    | (go_at_call 65; refine (CR.out x2 HB2.out).mono ?_; rintro e x3 ⟨R, fp', rfl, g1, g2, g3, g4⟩; have H3 : Box (VC w0 x3 V D fp' v (Disk.rdOk d (p : Int)) sa sc ∧ Fw No w x3 fp fp' ∧ Bytes x3 (some ⟨R, 0, none⟩) 192 (Disk.lat d p) ∧ x3.heap[S]? = some (.cells (ra r) 36 (0, 0))) := ⟨g1, g2, g3, g4⟩; clear g1 g2 g3 g4))
  obtain ⟨C3, F3, hB3, hS3⟩ := H3.out
  have HL : Box (x3.rangeAt S 0 (rc r) ∧ S < x3.heap.size) := ⟨(HST.out x3 hS3).2, (Array.getElem?_eq_some_iff.1 hS3).1⟩
  have CL : Box (∀ x, Below x3.heap.size x3 x → Calls Tryz.prog 57 #[.pointer (some ⟨V, 0, none⟩), .int .i64 (itm v.n l i : Nat)] x fun e w' => e = .returned (.int .i64 (l : Int)) ∧ Below x.heap.size x w') := ⟨fun x hx => HLV.out _ x (C3.below hx)⟩
  have hTab : ∀ x, Below x3.heap.size x3 x → Dig.Tabs x ∧ Seal.Tab x := fun x hx => by
    have hb := (C3.below hx).cx.bel
    exact ⟨C3.dig.below hb, C3.tab.below hb⟩
  have CK : Box (∀ x, Below x3.heap.size x3 x → Calls Tryz.prog 66 #[.agg (ra r), .int .i64 (l : Int), .int .u32 (p : Int), .slice (some ⟨R, 0, none⟩) 192 192] x fun e w' => e = .returned (.bool c) ∧ Below x.heap.size x w') := ⟨fun x hx => HCK.out R x (hTab x hx).1 (hB3.below hx)⟩
  have CO : Box (∀ x, Below x3.heap.size x3 x → Calls Tryz.prog 67 #[.agg (u8s v.key), .int .u32 (p : Int), .slice (some ⟨R, 0, none⟩) 192 192, .int .i64 160] x fun e w' => ∃ a', e = .returned (.tuple #[.int .u64 u, .slice a' m m, .int .i64 oe]) ∧ Bytes w' a' m B ∧ Below x.heap.size x w') := ⟨fun x hx => HO.out x _ (hTab x hx).2 (hB3.below hx)⟩
  have HKy : Box (∀ x, Below x3.heap.size x3 x → x.rangeAt V 1 (v.key.map (Value.int .u8))) := ⟨fun x hx => (C3.below hx).rd.key⟩
  have HKl : Box ((Tryz.prog.info? 23).map (·.size) = some (v.key.map (Value.int .u8)).length) := ⟨by rw [List.length_map, C.ok.key]; exact infoSum⟩
  have HS4 : Box (∀ x, Below x3.heap.size x3 x → x.cell? ⟨S, 32, none⟩ = some (.int .u64 r.s)) := ⟨fun x hx => (HST.out x ((hx.block S HL.out.2).trans hS3)).1⟩
  clear C3 F3 hB3 hS3 hTab HCK HLV HO C fD fD2 HST CP CR HB2
  refine Seq.begin_any (by kernel_rfl) (fun wd hd => ?_)
  have HX0 : Box (Below x3.heap.size x3 wd) := ⟨hd⟩
  clear hd
  refine Seq.take_lat (i := 0) (v := .agg (ra r)) rfl (by kernel_rfl) (by kernel_rfl) (by kernel_rfl) (fun _ _ _ h => h) (by rfl) (fun w' hLat => exec_load_mid 36 _ _ rfl Tryz.underlying36 rfl S 0 rfl (rc r) HI.out (range_below (below_to HX0.out hLat) HL.out.1 HL.out.2)) ?_
  try simp only [Act.put, List.setIfInBounds_toArray, List.set_cons_zero, List.set_cons_succ, List.getElem_toArray, List.getElem_cons_zero]
  refine Seq.take_lat (i := 1) (v := ?_) rfl (by kernel_rfl) (by kernel_rfl) (by kernel_rfl) (fun _ _ _ h => h) (by rfl) ?_ ?_
  rotate_left
  · intro w' hLat; change Below _ _ _ at hLat; go_simp <;> with_reducible rfl
  try simp only [Act.put, List.setIfInBounds_toArray, List.set_cons_zero, List.set_cons_succ, List.getElem_toArray, List.getElem_cons_zero, List.getElem_cons_succ]
  refine Seq.take_lat (i := 2) (v := ?_) rfl (by kernel_rfl) (by kernel_rfl) (by kernel_rfl) (fun _ _ _ h => h) (by rfl) ?_ ?_
  rotate_left
  · intro w' hLat; change Below _ _ _ at hLat; go_simp <;> with_reducible rfl
  try simp only [Act.put, List.setIfInBounds_toArray, List.set_cons_zero, List.set_cons_succ, List.getElem_toArray, List.getElem_cons_zero, List.getElem_cons_succ]
  refine Seq.take_lat (i := 4) (v := ?_) rfl (by kernel_rfl) (by kernel_rfl) (by kernel_rfl) (fun _ _ _ h => h) (by rfl) ?_ ?_
  rotate_left
  · intro w' hLat; change Below _ _ _ at hLat; go_simp <;> with_reducible rfl
  try simp only [Act.put, List.setIfInBounds_toArray, List.set_cons_zero, List.set_cons_succ, List.getElem_toArray, List.getElem_cons_zero, List.getElem_cons_succ]
  refine Seq.take_lat (i := 5) (v := .int .u32 (p : Int)) rfl (by kernel_rfl) (by kernel_rfl) (by kernel_rfl) (fun _ _ _ h => h) (by rfl) (fun w' hLat => exec_u32 (.tmp 39) rfl p HP.out rfl) ?_
  try simp only [Act.put, List.setIfInBounds_toArray, List.set_cons_zero, List.set_cons_succ, List.getElem_toArray, List.getElem_cons_zero, List.getElem_cons_succ]
  refine Seq.take_lat (i := 6) (v := ?_) rfl (by kernel_rfl) (by kernel_rfl) (by kernel_rfl) (fun _ _ _ h => h) (by rfl) ?_ ?_
  rotate_left
  · intro w' hLat; change Below _ _ _ at hLat; go_simp <;> with_reducible rfl
  try simp only [Act.put, List.setIfInBounds_toArray, List.set_cons_zero, List.set_cons_succ, List.getElem_toArray, List.getElem_cons_zero, List.getElem_cons_succ]
  refine Seq.only_lat (i := 3) rfl (by kernel_rfl) (fun KK hK => ?_)
  rw [if_pos (by rfl)]
  go_simp
  refine Calls.mono (CL.out wd HX0.out) ?_
  rintro e x4 ⟨rfl, hb⟩
  have HX4 : Box (Below x3.heap.size x3 x4) := ⟨below_to HX0.out hb⟩
  refine hK.out _ _ hb ?_
  clear hb
  clear hK KK
  try simp only [Act.put, List.setIfInBounds_toArray, List.set_cons_zero, List.set_cons_succ, List.getElem_toArray, List.getElem_cons_zero, List.getElem_cons_succ]
  refine Seq.only_lat (i := 7) rfl (by kernel_rfl) (fun KK hK => ?_)
  rw [if_pos (by rfl)]
  go_simp
  refine Calls.mono (CK.out x4 HX4.out) ?_
  rintro e x5 ⟨rfl, hb⟩
  have HX5 : Box (Below x3.heap.size x3 x5) := ⟨below_to HX4.out hb⟩
  refine hK.out _ _ hb ?_
  clear hb
  clear hK KK
  try simp only [Act.put, List.setIfInBounds_toArray, List.set_cons_zero, List.set_cons_succ, List.getElem_toArray, List.getElem_cons_zero, List.getElem_cons_succ]
  refine Seq.take_lat (i := 8) (v := ?_) rfl (by kernel_rfl) (by kernel_rfl) (by kernel_rfl) (fun _ _ _ h => h) (by rfl) ?_ ?_
  rotate_left
  · intro w' hLat; change Below _ _ _ at hLat; go_simp <;> with_reducible rfl
  try simp only [Act.put, List.setIfInBounds_toArray, List.set_cons_zero, List.set_cons_succ, List.getElem_toArray, List.getElem_cons_zero, List.getElem_cons_succ]
  refine wpAnyH_done (by kernel_rfl) ?_ _
  have fin : ∀ x, Below x3.heap.size x3 x → VC w0 x V D fp' v (Disk.rdOk d (p : Int)) sa sc ∧ Fw No w x fp fp' := fun x hx => ⟨H3.out.1.below hx, H3.out.2.1.trans (Fw.below No fp' hx)⟩
  have HF : Box (∀ x, Below x3.heap.size x3 x → VC w0 x V D fp' v (Disk.rdOk d (p : Int)) sa sc ∧ Fw No w x fp fp') := ⟨fin⟩
  clear fin
  cases c with
  | false =>
    go_wp2
    go_ret2
    unfold GetUp
    exact ⟨fp', none, (HF.out x5 HX5.out).1, (HF.out x5 HX5.out).2, .inr ⟨by simp, rfl⟩⟩
  | true =>
    have hky := HKy.out x5 HX5.out
    have HK5 : Box (x5.rangeAt V 1 (v.key.map (Value.int .u8))) := ⟨hky⟩
    clear hky
    have HU : Box (Value.agg (v.key.map (Value.int .u8)).toArray = .agg (u8s v.key)) := ⟨rfl⟩
    by_cases hoe : oe = 0
    · subst hoe
      by_cases hu : u = r.s / 2
      · subst hu
        go_wp2_with (first
          | (refine atLoad 23 ?_; refine wpList_ldMid rfl 23 _ _ rfl Tryz.underlying23 rfl V 1 rfl (v.key.map (Value.int .u8)) HKl.out HK5.out ?_)
          | (refine atConv 3 112 ?_; refine wpList_run rfl _ _ (exec_u32 (.tmp 49) rfl p HP.out rfl) ?_)
          | (go_at_call 67; refine Calls.mono (CO.out x5 HX5.out) ?_; rintro e x6 ⟨a', rfl, hB, hb⟩; have H6 : Box (Below x3.heap.size x3 x6 ∧ Bytes x6 a' m B) := ⟨below_to HX5.out hb, hB⟩; have fS := HS4.out x6 H6.out.1; clear hB hb)
          | (go_at_call 68; refine (HV.out _).mono ?_; rintro e w' ⟨rfl, rfl⟩))
        go_ret2
        unfold GetUp
        exact ⟨fp', a', (HF.out x6 H6.out.1).1, (HF.out x6 H6.out.1).2, .inl ⟨rfl, rfl, rfl, rfl, H6.out.2⟩⟩
      · have hq2 : (u == r.s / 2) = false := by simpa using hu
        go_wp2_with (first
          | (refine atLoad 23 ?_; refine wpList_ldMid rfl 23 _ _ rfl Tryz.underlying23 rfl V 1 rfl (v.key.map (Value.int .u8)) HKl.out HK5.out ?_)
          | (refine atConv 3 112 ?_; refine wpList_run rfl _ _ (exec_u32 (.tmp 49) rfl p HP.out rfl) ?_)
          | (go_at_call 67; refine Calls.mono (CO.out x5 HX5.out) ?_; rintro e x6 ⟨a', rfl, hB, hb⟩; have H6 : Box (Below x3.heap.size x3 x6) := ⟨below_to HX5.out hb⟩; have fS := HS4.out x6 H6.out; clear hB hb)
          | (go_at_call 68; refine (HV.out _).mono ?_; rintro e w' ⟨rfl, rfl⟩))
        go_ret2
        unfold GetUp
        exact ⟨fp', none, (HF.out x6 H6.out).1, (HF.out x6 H6.out).2, .inr ⟨fun h => hu h.2.2, rfl⟩⟩
    · have hq2 : (oe == 0) = false := by simpa using hoe
      go_wp2_with (first
        | (refine atLoad 23 ?_; refine wpList_ldMid rfl 23 _ _ rfl Tryz.underlying23 rfl V 1 rfl (v.key.map (Value.int .u8)) HKl.out HK5.out ?_)
        | (refine atConv 3 112 ?_; refine wpList_run rfl _ _ (exec_u32 (.tmp 49) rfl p HP.out rfl) ?_)
        | (go_at_call 67; refine Calls.mono (CO.out x5 HX5.out) ?_; rintro e x6 ⟨a', rfl, hB, hb⟩; have H6 : Box (Below x3.heap.size x3 x6) := ⟨below_to HX5.out hb⟩; clear hB hb))
      go_ret2
      unfold GetUp
      exact ⟨fp', none, (HF.out x6 H6.out).1, (HF.out x6 H6.out).2, .inr ⟨fun h => hoe h.2.1, rfl⟩⟩
def GetV (w0 w : World) (V D : Nat) (fp : Nat → Prop) (v : Vt) (sa : Option Addr) (sc : Nat) (q : Disk.Dk × Int × List Int) (e : Ending) (w' : World) : Prop :=
  ∃ fp' a, VC w0 w' V D fp' v q.1 sa sc ∧ Fw No w w' fp fp' ∧ e = .returned (.tuple #[.slice a q.2.2.length q.2.2.length, .int .i64 q.2.1]) ∧ Bytes w' a q.2.2.length q.2.2
set_option maxHeartbeats 1000000 in
theorem get_zero {w0 w : World} {V D : Nat} {fp : Nat → Prop} {v : Vt} {d : Disk.Dk} {sa : Option Addr} {sc : Nat} (C : VC w0 w V D fp v d sa sc) (x : Int) (r : Rf) (hr : OkR r) (h0 : r.s = 0) :
    Calls Tryz.prog 43 #[.pointer (some ⟨V, 0, none⟩), .int .i64 x, .agg (ra r)] w fun e w' => GetV w0 w V D fp v sa sc (d, 0, y160) e w' := by
  obtain ⟨w1, hw1⟩ : ∃ w1, w.alloc (.cells (ra r) 36) = w1 := ⟨_, rfl⟩
  have hb1 : Below w.heap.size w w1 := by rw [← hw1]; exact (Below.refl _ _).alloc (Nat.le_refl _) _
  have hr1 : w1.heap[w.heap.size]? = some (.cells (ra r) 36 (0, 0)) := by rw [← hw1]; exact al_at rfl
  have f1 : w1.cell? ⟨w.heap.size, 32, none⟩ = some (.int .u64 0) := by
    rw [cell_of_row _ _ _ _ _ _ hr1]
    simp [ra, rc, hr.ld, h0]
  have HF : Box (GetV w0 w V D fp v sa sc (d, 0, y160) (.returned (.tuple #[.slice (some ⟨w1.heap.size, 0, none⟩) 160 160, .int .i64 0])) (w1.alloc (.cells (u8s y160) 5))) := ⟨by
    have hb2 : Below w.heap.size w (w1.alloc (.cells (u8s y160) 5)) := hb1.alloc hb1.size _
    refine ⟨fp, some ⟨w1.heap.size, 0, none⟩, C.below hb2, Fw.below No fp hb2, rfl, ?_⟩
    exact bytes_of_row (byt_zeros 160) (al_at rfl)⟩
  clear hb1 hr1 C
  go_enter Tryz.func43, Tryz.ntmps43
  go_wp2_with (refine wpList_run rfl _ _ (exec_make160 _ _ rfl rfl rfl) ?_)
  go_ret2
  exact HF.out
set_option maxHeartbeats 2000000 in
theorem get_down {w0 w : World} {V D : Nat} {fp : Nat → Prop} {v : Vt} {d : Disk.Dk} {sa : Option Addr} {sc : Nat} (C : VC w0 w V D fp v d sa sc) (l i : Nat) (hl : l ≤ topL v.n) (hi : i < wd v.n l) (r : Rf) (hr : OkR r) (h0 : r.s ≠ 0) (hd : d.down = true) :
    Calls Tryz.prog 43 #[.pointer (some ⟨V, 0, none⟩), .int .i64 (itm v.n l i : Nat), .agg (ra r)] w fun e w' => GetV w0 w V D fp v sa sc (d, 13, []) e w' := by
  obtain ⟨S, hS⟩ : ∃ S, w.heap.size = S := ⟨_, rfl⟩
  obtain ⟨w1, hw1⟩ : ∃ w1, w.alloc (.cells (ra r) 36) = w1 := ⟨_, rfl⟩
  have hb1 : Below w.heap.size w w1 := by rw [← hw1]; exact (Below.refl _ _).alloc (Nat.le_refl _) _
  have hr1 : w1.heap[S]? = some (.cells (ra r) 36 (0, 0)) := by rw [← hw1]; exact al_at hS
  have C1 := C.below hb1
  have HSd : Box (∀ x, Calls Tryz.prog 64 #[.int .u64 r.s] x fun e w' => e = .returned (.int .i64 ((sd r : Nat) : Int)) ∧ x = w') := ⟨fun x => by
    have := side_any r.s x hr.hs
    have e : ((sd r : Nat) : Int) = r.s % 2 := by unfold sd; omega
    rw [e]; exact this⟩
  have CP : Box (Calls Tryz.prog 51 #[.pointer (some ⟨V, 0, none⟩), .int .i64 (itm v.n l i : Nat), .int .i64 ((sd r : Nat) : Int)] w1 fun e w' => e = .returned (.int .i64 (2 * itm v.n l i + sd r : Nat)) ∧ Below w1.heap.size w1 w') := ⟨place_v C1 l i (sd r) hl hi (sd_lt r)⟩
  have f1 : w1.cell? ⟨S, 32, none⟩ = some (.int .u64 r.s) := by
    rw [cell_of_row _ _ _ _ _ _ hr1]
    simp [ra, rc, hr.ld]
  have CR : Box (∀ x i, Below w1.heap.size w1 x → Calls Tryz.prog 65 #[.pointer (some ⟨D, 0, none⟩), .int .i64 i] x fun e w' => e = .returned (.tuple #[.slice none 0 0, .int .i64 13]) ∧ x = w') := ⟨fun x i hx => Disk.read_down x D fp d (C1.below hx).cx.is i hd⟩
  have fD : Box (∀ x, Below w1.heap.size w1 x → x.cell? ⟨V, 0, none⟩ = some (.pointer (some ⟨D, 0, none⟩))) := ⟨fun x hx => (C1.below hx).rd.disk⟩
  have hq : (r.s == 0) = false := by simpa using h0
  have HF : Box (∀ x, Below w1.heap.size w1 x → GetV w0 w V D fp v sa sc (d, 13, []) (.returned (.tuple #[.slice none 0 0, .int .i64 13])) x) := ⟨fun x hx => ⟨fp, none, C1.below hx, Fw.below No fp (below_to hb1 hx), rfl, bytes_none x⟩⟩
  clear h0 hl hi hr1 hb1 C1 hr C hd
  generalize 2 * itm v.n l i + sd r = p at *
  have HN : Box (w.heap.size = S) := ⟨hS⟩
  clear hS
  go_enter Tryz.func43, Tryz.ntmps43
  go_upto_region 1 with fail
  rw [HN.out]
  go_wp2_with (first
    | (go_at_call 64; refine (HSd.out _).mono ?_; rintro e w' ⟨rfl, rfl⟩)
    | (go_at_call 51; refine CP.out.mono ?_; rintro e x2 ⟨rfl, hb2⟩; have fD2 := fD.out x2 hb2; have HB2 : Box (Below w1.heap.size w1 x2) := ⟨hb2⟩; clear hb2)
    | (go_at_call 65; refine (CR.out x2 _ HB2.out).mono ?_; rintro e w' ⟨rfl, rfl⟩))
  go_ret2
  exact HF.out _ HB2.out
theorem get_v {w0 w : World} {V D : Nat} {fp : Nat → Prop} {v : Vt} {d : Disk.Dk} {sa : Option Addr} {sc : Nat} (C : VC w0 w V D fp v d sa sc) (l i : Nat) (hl : l ≤ topL v.n) (hi : i < wd v.n l) (r : Rf) (hr : OkR r) (hop : d.ops.length < 1000000) (hup : d.uw.length < 1000000) :
    Calls Tryz.prog 43 #[.pointer (some ⟨V, 0, none⟩), .int .i64 (itm v.n l i : Nat), .agg (ra r)] w fun e w' => GetV w0 w V D fp v sa sc (getM (Yk v.key) Xd v.n d l i r) e w' := by
  by_cases h0 : r.s = 0
  · rw [getM, if_pos h0]
    exact get_zero C _ r hr h0
  · cases hd : d.down with
    | true =>
      have e : getM (Yk v.key) Xd v.n d l i r = (d, 13, []) := by
        rw [getM, if_neg h0]
        simp [Xd, hd]
      rw [e]
      exact get_down C l i hl hi r hr h0 hd
    | false =>
      obtain ⟨p, hp⟩ : ∃ p, pc v.n l i r = p := ⟨_, rfl⟩
      have e0 : (Xd.rd d p) = (Disk.rdOk d (p : Int), 0, Disk.lat d p) := by simp [Xd, hd]
      have hp32 : p < 4294967296 := by
        have := itm_lt v.n (topL v.n) l i hl hi
        have := off_le v.n C.ok.lo C.ok.hi
        have := sd_lt r
        rw [← hp]; unfold pc; omega
      have hw : W32 (p : Int) := ⟨by omega, by omega⟩
      have hs : (Yk v.key).hs l p (Disk.lat d p) = dsha (dg (l : Int) (p : Int) (Disk.lat d p)) := rfl
      by_cases hF : Seal.Fit (Disk.lat d p) 160
      · have ho : (Yk v.key).op p (Disk.lat d p) = some (num (Disk.lat d p) 0 8, Seal.op v.key (p : Int) (Disk.lat d p) 160) := if_pos hF
        refine (get_up C l i hl hi r hr h0 hd hop hup p hp _ rfl (num (Disk.lat d p) 0 8) 0 160 (Seal.op v.key (p : Int) (Disk.lat d p) 160) (fun x a hT hB => Seal.open_ok v.key _ p 160 a 192 x hT C.ok.key C.ok.kb hw (.inl rfl) hB (by omega) hF)).mono ?_
        rintro e w' ⟨fp', a', c1, c2, h⟩
        rw [getM, if_neg h0, hp, e0]
        simp only [ne_eq, not_true_eq_false, if_false, hs, ho]
        rcases h with ⟨h1, h2, h3, rfl, h5⟩ | ⟨h1, rfl⟩
        · have h1' : r.d = dsha (dg (l : Int) (p : Int) (Disk.lat d p)) := by simpa using h1
          rw [if_pos h1', if_pos h3]
          have hln : (Seal.op v.key (p : Int) (Disk.lat d p) 160).length = 160 := h5.1
          refine ⟨fp', a', c1, c2, ?_, ?_⟩
          · simp only [hln]
          · simp only [hln]; exact h5
        · by_cases h2 : r.d = dsha (dg (l : Int) (p : Int) (Disk.lat d p))
          · rw [if_pos h2, if_neg (fun h3 => h1 ⟨by simpa using h2, rfl, h3⟩)]
            exact ⟨fp', none, c1, c2, rfl, bytes_none w'⟩
          · rw [if_neg h2]
            exact ⟨fp', none, c1, c2, rfl, bytes_none w'⟩
      · have ho : (Yk v.key).op p (Disk.lat d p) = none := if_neg hF
        refine (get_up C l i hl hi r hr h0 hd hop hup p hp _ rfl 0 11 0 [] (fun x a hT hB => (Seal.open_form v.key _ p 160 a 192 x (.inl rfl) hB (by omega) hF).mono (fun e w' h => ⟨none, h.1, bytes_none w', h.2⟩))).mono ?_
        rintro e w' ⟨fp', a', c1, c2, h⟩
        rw [getM, if_neg h0, hp, e0]
        simp only [ne_eq, not_true_eq_false, if_false, hs, ho]
        rcases h with ⟨h1, h2, h3, rfl, h5⟩ | ⟨h1, rfl⟩
        · cases h2
        · split
          · exact ⟨fp', none, c1, c2, rfl, bytes_none w'⟩
          · exact ⟨fp', none, c1, c2, rfl, bytes_none w'⟩
end Go.Proofs.YthbbijaikcmaeaaGreatDoor
namespace Go.Proofs.YthbbijaikcmaeaaGreatDoor
set_option maxRecDepth 100000
set_option linter.unusedVariables false
open Go.RowKit
theorem rowsIn_wide {n : Nat} {P : Program} {row : String} {args : Array Value} {w : World} {R : Value → World → Prop} (h : Rows P row args w R) : RowsIn Fence.wide n P row args w R :=
  fun c cs _ => let ⟨v, w', r, s⟩ := h c cs; ⟨v, w', r, stepsIn_wide.2 s⟩
theorem uponIn_of {n l : Nat} {P : Program} {o : Oper} {a : Act} {K K' : Act → World → Prop} {Q : Exit → Act → World → Prop} {r : Result Next} (hK : ∀ a w, K a w → K' a w) (h : o.upon P a K Q r) : o.uponIn (Fence.wide.inRound l) n P a K' Q r := by
  unfold Oper.upon at h
  split at h
  · exact hK _ _ h
  · exact hK _ _ h
  · exact hK _ _ h
  · refine ⟨(fun h => by cases h), CallsIn.inRound l (callsIn_wide.2 (h.mono ?_))⟩
    intro e w' he
    cases e with
    | returned v => exact hK _ _ he
    | panicked c => exact he
    | outgrown => exact he
  · refine ⟨(fun h => by cases h), RowsIn.mono (rowsIn_wide h) (fun v w' he => hK _ _ he)⟩
  · exact h
  · exact h.elim
theorem anyIn_of {n l : Nat} {P : Program} {md : Region.Mode} {ops : Array Oper} {Q : Exit → Act → World → Prop} (hd : ∀ o ∈ ops.toList, ∀ c, o.op ≠ .defer c) (hno : ¬ LetsOut Q) :
    ∀ (fuel : Nat) (listed : Array Bool) (a : Act) (w : World), wpAny P md ops Q fuel listed a w → wpAnyIn (Fence.wide.inRound l) n P md ops Q fuel listed a w
  | 0, listed, a, w, h => h
  | fuel + 1, listed, a, w, h => by
    refine ⟨h.1, fun i hi => ?_⟩
    have := h.2 i hi
    unfold wpOp at this
    unfold wpOpIn
    cases ho : ops[i]? with
    | none =>
      rw [ho] at this
      exact anyIn_of hd hno fuel _ _ _ this
    | some o =>
      rw [ho] at this
      simp only at this ⊢
      have hdo : ∀ c, o.op ≠ .defer c := hd o (by
        obtain ⟨hlt, e⟩ := Array.getElem?_eq_some_iff.1 ho
        rw [← e]
        exact Array.getElem_mem_toList hlt)
      split
      · rename_i hw
        rw [if_pos hw] at this
        rcases this with h1 | h1
        · refine ⟨fun _ _ => trivial, ?_⟩
          rw [Oper.semAt_eq _ _ _ hdo]
          exact uponIn_of (fun a w h => anyIn_of hd hno fuel _ a w h) h1
        · exact absurd h1.2 hno
      · rename_i hw
        rw [if_neg hw] at this
        exact ⟨fun _ _ => trivial, anyIn_of hd hno fuel _ _ _ this⟩
theorem begin_in {l n id : Nat} {P : Program} {ops : Array Oper} {Q : Exit → Act → World → Prop} {a : Act} {w : World} (S : World → World → Prop) (hm : P.follows .mixedOrders = true) (hd : ∀ o ∈ ops.toList, ∀ c, o.op ≠ .defer c) (hno : ¬ LetsOut Q)
    (h : ∀ wd, wd = w.drew → wpAnyH P .any ops Q (S wd) ops.size (Array.replicate ops.size false) a wd) : (Code.region id ops true).wpIn (Fence.wide.inRound l) n P Q a w :=
  wpIn_region_any hm (anyIn_of hd hno _ _ _ _ (wpAny_of_held _ _ _ _ (h _ rfl)))
end Go.Proofs.YthbbijaikcmaeaaGreatDoor
