/-
  The nodes among items, level by level from the top down, as down of package vault hands them on.
-/
import Derived.Test.YthbbijaikcmaeaaGreatDoorX28
namespace Go.Proofs.YthbbijaikcmaeaaGreatDoor
set_option maxRecDepth 100000
set_option linter.unusedVariables false
set_option maxRecDepth 100000
open Go.RowKit Go.Shelf Plain Go.Proofs.YthbbijaikcmaeaaGreatDoor.Shap.Plain
attribute [local go_sem] Oper.semAt_some
structure Nd (n : Nat) where
  l : Nat
  i : Nat
  hl : l + 1 ≤ topL n
  hi : i < wd n (l + 1)
def encD (n : Nat) (x : Nd n) : Array Value := #[.int .i64 (itm n (x.l + 1) x.i : Nat)]
def Ok2 (n : Nat) (p : Nat × Nat) : Prop := p.1 ≤ topL n ∧ p.2 < wd n p.1
instance (n : Nat) (p : Nat × Nat) : Decidable (Ok2 n p) := by unfold Ok2; infer_instance
def nds (n lv : Nat) (its : List (Nat × Nat)) : List (Nd n) := its.filterMap (fun p => if h : p.1 = lv + 1 ∧ Ok2 n p then some ⟨lv, p.2, by have := h.2.1; omega, by rw [← h.1]; exact h.2.2⟩ else none)
def dnL (n : Nat) (its : List (Nat × Nat)) : Nat → List (Nd n)
  | 0 => []
  | lv + 1 => nds n lv its ++ dnL n its lv
theorem nds_cons_yes (n lv : Nat) (p : Nat × Nat) (its : List (Nat × Nat)) (h : p.1 = lv + 1 ∧ Ok2 n p) : nds n lv (p :: its) = ⟨lv, p.2, by have := h.2.1; omega, by rw [← h.1]; exact h.2.2⟩ :: nds n lv its := by
  unfold nds
  rw [List.filterMap_cons]
  simp only [h]
  simp 
theorem nds_cons_no (n lv : Nat) (p : Nat × Nat) (its : List (Nat × Nat)) (h : p.1 ≠ lv + 1) : nds n lv (p :: its) = nds n lv its := by
  unfold nds
  rw [List.filterMap_cons]
  simp [h]
def itI (n : Nat) (its : List (Nat × Nat)) : List Int := its.map (fun p => ((itm n p.1 p.2 : Nat) : Int))
structure Dn (W : World) (Bv Bi V D : Nat) (v : Vt) (sa : Option Addr) (sc : Nat) (ia : Option Addr) (ic : Nat) (L : List Int) : Prop where
  bv : W.heap[Bv]? = some (.cells #[.pointer (some ⟨V, 0, none⟩)] 31 (0, 0))
  bi : W.heap[Bi]? = some (.cells #[.slice ia L.length ic] 50 (0, 0))
  row : W.heap[V]? = some (.cells (vcs D v sa sc).toArray 79 (0, 0))
  ints : Shap.Ints W sa (wid v.n).length (wid v.n)
  its : Shap.Ints W ia L.length L
def dnS (Bv Bi V : Nat) (sa ia : Option Addr) (k : Nat) : Prop := k = Bv ∨ k = Bi ∨ k = V ∨ (∃ ad, sa = some ad ∧ k = ad.block) ∨ ∃ ad, ia = some ad ∧ k = ad.block
theorem Dn.kps {W W' : World} {Bv Bi V D : Nat} {v : Vt} {sa : Option Addr} {sc : Nat} {ia : Option Addr} {ic : Nat} {L : List Int} {S : Nat → Prop} (h : Dn W Bv Bi V D v sa sc ia ic L) (hk : Kps S W W') (hS : ∀ k, dnS Bv Bi V sa ia k → S k) : Dn W' Bv Bi V D v sa sc ia ic L :=
  ⟨hk.block (hS _ (.inl rfl)) h.bv, hk.block (hS _ (.inr (.inl rfl))) h.bi, hk.block (hS _ (.inr (.inr (.inl rfl)))) h.row, hk.ints h.ints (fun ad e => hS _ (.inr (.inr (.inr (.inl ⟨ad, e, rfl⟩))))), hk.ints h.its (fun ad e => hS _ (.inr (.inr (.inr (.inr ⟨ad, e, rfl⟩)))))⟩
theorem Dn.below {W W' : World} {Bv Bi V D : Nat} {v : Vt} {sa : Option Addr} {sc : Nat} {ia : Option Addr} {ic : Nat} {L : List Int} (h : Dn W Bv Bi V D v sa sc ia ic L) (hb : Below W.heap.size W W') : Dn W' Bv Bi V D v sa sc ia ic L := h.kps (S := fun _ => True) (Kps.below hb) (fun _ _ => trivial)
theorem level_d {W : World} {V D : Nat} {v : Vt} {sa : Option Addr} {sc : Nat} (ok : v.Ok) (hrow : W.heap[V]? = some (.cells (vcs D v sa sc).toArray 79 (0, 0))) (hI : Shap.Ints W sa (wid v.n).length (wid v.n)) (l i : Nat) (hl : l ≤ topL v.n) (hi : i < wd v.n l) :
    Calls Tryz.prog 57 #[.pointer (some ⟨V, 0, none⟩), .int .i64 (itm v.n l i : Nat)] W fun e w' => e = .returned (.int .i64 (l : Int)) ∧ Below W.heap.size W w' := by
  have hb := itm_lt v.n (topL v.n) l i hl hi
  have ho := off_le v.n ok.lo ok.hi
  have HC : Box (Calls Tryz.prog 83 #[.agg #[.slice sa (wid v.n).length sc], .int .i64 (itm v.n l i : Nat)] W fun e w' => e = .returned (.tuple #[.int .i64 (l : Int), .int .i64 (i : Int), .int .i64 0]) ∧ Below W.heap.size W w') := ⟨Shap.level_any sa (wid v.n).length sc _ _ _ _ (wid v.n) W hI (shp_wid v.n ok.lo ok.hi) (by omega) (lvl_itm v.n l i ok.lo ok.hi hl hi)⟩
  have hR : Box (W.rangeAt V 34 [.slice sa (wid v.n).length sc]) := ⟨(vrd_of hrow ok).shp⟩
  clear hl hi hb ho hrow hI
  go_enter Tryz.func57, Tryz.ntmps57
  go_wp2_with (first
    | (go_at_call 83; refine HC.out.mono ?_; rintro e w' ⟨rfl, hb⟩)
    | (refine atLoad 74 ?_; refine wpList_ldMid rfl 74 _ _ rfl Tryz.underlying74 rfl V 34 rfl [.slice sa (wid v.n).length sc] infoShp hR.out ?_))
  go_ret
  exact ⟨rfl, hb⟩
set_option maxHeartbeats 4000000 in
theorem down1_in (n : Nat) (hn : 1 ≤ n) (lo Bv Bi V D : Nat) (v : Vt) (ok : v.Ok) (sa : Option Addr) (sc : Nat) (ia : Option Addr) (ic : Nat) (its : List (Nat × Nat)) (hits : ∀ p ∈ its, Ok2 v.n p) (hil : its.length ≤ 1000000) (S : Nat → Prop) (hS : ∀ k, dnS Bv Bi V sa ia k → S k) (J Jx : List (Nd v.n) → World → Prop) (W : World) (hJa : AbidesFrom W.heap.size J)
    (hY : ∀ pre x W1, J pre W1 → pre.length < (dnL v.n its (topL v.n)).length → YieldAt Fence.wide (n - 1) Tryz.prog lo (encD v.n x) W1 fun e W' =>
      (e = .returned (.bool true) ∧ J (pre ++ [x]) W' ∧ Kps S W1 W') ∨ (e = .returned (.bool false) ∧ Jx (pre ++ [x]) W'))
    (hB : Dn W Bv Bi V D v sa sc ia ic (itI v.n its)) (h0 : J [] W) :
    CallsIn Fence.wide n Tryz.prog 74 #[.func (.yield lo) #[] #[], .pointer (some ⟨Bv, 0, none⟩), .pointer (some ⟨Bi, 0, none⟩)] W fun e W' => (∃ v, e = .returned v) ∧
      ((∃ ys, ys = dnL v.n its (topL v.n) ∧ J ys W') ∨ (∃ pre, (∃ suf, pre ++ suf = dnL v.n its (topL v.n)) ∧ Jx pre W')) := by
  obtain ⟨vn, hvn⟩ : ∃ vn, v.n = vn := ⟨_, rfl⟩
  have hfact : ∀ x, Dn x Bv Bi V D v sa sc ia ic (itI v.n its) → x.cell? ⟨Bv, 0, none⟩ = some (.pointer (some ⟨V, 0, none⟩)) ∧ x.cell? ⟨Bi, 0, none⟩ = some (.slice ia its.length ic) ∧ x.rangeAt V 34 [.slice sa (wid v.n).length sc] := fun x hx => by
    have hl : (itI v.n its).length = its.length := by simp [itI]
    have hbi := hx.bi
    rw [hl] at hbi
    exact ⟨by rw [cell_of_row _ _ _ _ _ _ hx.bv]; rfl, by rw [cell_of_row _ _ _ _ _ _ hbi]; rfl, (vrd_of hx.row ok).shp⟩
  obtain ⟨hT1, hT2, hT3⟩ := topL_bd v.n ok.lo ok.hi
  obtain ⟨T, hT⟩ : ∃ T, topL v.n = T := ⟨_, rfl⟩
  have CT : Box (Calls Tryz.prog 75 #[.agg #[.slice sa (wid v.n).length sc]] W fun e w' => e = .returned (.int .i64 (T : Int)) ∧ Below W.heap.size W w') := ⟨by
    have := Shap.top_any sa (wid v.n).length sc W (by omega) (by omega)
    rw [show (wid v.n).length - 1 = T by omega] at this
    exact this⟩
  obtain ⟨f1, f2, f3⟩ := hfact W hB
  have HR0 : Box (W.rangeAt V 34 [.slice sa (wid v.n).length sc]) := ⟨f3⟩
  have HF : Box (∀ x, Dn x Bv Bi V D v sa sc ia ic (itI v.n its) → x.cell? ⟨Bv, 0, none⟩ = some (.pointer (some ⟨V, 0, none⟩)) ∧ x.cell? ⟨Bi, 0, none⟩ = some (.slice ia its.length ic)) := ⟨fun x hx => ⟨(hfact x hx).1, (hfact x hx).2.1⟩⟩
  have HCL : Box (∀ x l i, Dn x Bv Bi V D v sa sc ia ic (itI v.n its) → l ≤ T → i < wd v.n l → Calls Tryz.prog 57 #[.pointer (some ⟨V, 0, none⟩), .int .i64 (itm v.n l i : Nat)] x fun e w' => e = .returned (.int .i64 (l : Int)) ∧ Below x.heap.size x w') := ⟨fun x l i hx h1 h2 => level_d ok hx.row hx.ints l i (by rw [hT]; exact h1) h2⟩
  have HB : Box (Dn W Bv Bi V D v sa sc ia ic (itI v.n its)) := ⟨hB⟩
  have HY : Box _ := ⟨hY⟩
  have HJ : Box (AbidesFrom W.heap.size J) := ⟨hJa⟩
  have H0 : Box (J [] W) := ⟨h0⟩
  have HS : Box (∀ k, dnS Bv Bi V sa ia k → S k) := ⟨hS⟩
  have HT : Box (topL v.n = T ∧ 1 ≤ T ∧ T ≤ 5 ∧ its.length ≤ 1000000) := ⟨hT, by omega, by omega, hil⟩
  have HO : Box (∀ p ∈ its, Ok2 v.n p) := ⟨hits⟩
  clear hfact hB hY hJa h0 hS hT1 hT2 hT3 f2 f3 hits hil ok hT hvn
  refine callsIn_of_wp Tryz.func74 rfl trivial ?_ rfl
  simp only [Tryz.ntmps74, List.size_toArray, List.length_cons, List.length_nil, Nat.reduceAdd, Nat.reduceSub, Array.replicate_succ, Array.replicate_zero, List.push_toArray, List.append_toArray, List.nil_append, List.cons_append]
  gi_wp2_with (first
    | (refine ⟨trivial, ?_⟩; gi_at_call 75; refine (callsIn_wide.2 CT.out).mono ?_; rintro e x0 ⟨rfl, hb⟩; have HX0 : Box (Below W.heap.size W x0) := ⟨hb⟩; clear hb)
    | (refine atLoadIn 74 ?_; refine wpListIn_ldMid rfl 74 _ _ rfl Tryz.underlying74 rfl V 34 rfl [.slice sa (wid v.n).length sc] infoShp HR0.out ?_))
  gi_loopw [4] (fun t wr => ∃ lv : Nat, ∃ P, lv ≤ T ∧ t = .int .i64 (lv : Int) ∧ Box (P ++ dnL v.n its lv = dnL v.n its T ∧ J P wr) ∧ Box (Dn wr Bv Bi V D v sa sc ia ic (itI v.n its))) (fun t _ => (intOf t).toNat)
  case atStart => exact ⟨T, [], Nat.le_refl _, rfl, ⟨rfl, abides HJ.out H0.out HX0.out⟩, ⟨HB.out.below HX0.out⟩⟩
  case round =>
    clear f1 H0 HB HX0 CT HR0
    obtain ⟨lv, P, hlv, rfl, HP, HD⟩ := hrel
    cases lv with
    | zero =>
      have hz : decide ((0 : Int) < ((0 : Nat) : Int)) = false := by decide
      gi_wp2
      go_end0
      exact ⟨⟨_, rfl⟩, .inl ⟨_, by have := HP.out.1; rw [dnL, List.append_nil] at this; rw [this, HT.out.1], HP.out.2⟩⟩
    | succ lv =>
      have hz : decide ((0 : Int) < ((lv + 1 : Nat) : Int)) = true := decide_eq_true (by omega)
      obtain ⟨g1, g2⟩ := HF.out wr HD.out
      obtain ⟨L1, hL1⟩ : ∃ L1 : Int, ((lv + 1 : Nat) : Int) = L1 := ⟨_, rfl⟩
      rw [hL1] at hz ⊢
      have hw5 : IntKind.i64.wrap (L1 - 1) = (lv : Int) := by rw [IntKind.wrap_i64, ← hL1]; have := HT.out; omega
      have HL1 : Box (((lv + 1 : Nat) : Int) = L1) := ⟨hL1⟩
      clear hL1
      gi_wp2
      gi_loopw [18] (fun i wr' => ∃ k : Nat, ∃ P', k ≤ its.length ∧ i = .int .i64 (k : Int) ∧ Box (P' ++ (nds v.n lv (its.drop k) ++ dnL v.n its lv) = dnL v.n its T ∧ J P' wr') ∧ Box (Dn wr' Bv Bi V D v sa sc ia ic (itI v.n its))) (fun i _ => its.length - (intOf i).toNat)
      case atStart => exact ⟨0, P, Nat.zero_le _, rfl, ⟨HP.out.1, HP.out.2⟩, HD⟩
      case round =>
        clear g1 g2 HP HD
        obtain ⟨k, P', hk, rfl, HP, HD⟩ := hrel
        obtain ⟨g1, g2⟩ := HF.out _ HD.out
        by_cases hlt : k < its.length
        · have hlt1 : decide ((k : Int) < (its.length : Int)) = true := by simp; omega
          have hlI : (itI v.n its).length = its.length := by simp [itI]
          obtain ⟨b, o, e, hbl, hc⟩ := HD.out.its.2 (by omega)
          subst e
          have hck := hc k (by omega)
          obtain ⟨p, hp⟩ : ∃ p, its[k] = p := ⟨_, rfl⟩
          have hgd : (itI v.n its).getD k 0 = ((itm v.n p.1 p.2 : Nat) : Int) := by simp [itI, hlt, hp]
          rw [hgd] at hck
          have hok := HO.out p (by rw [← hp]; exact List.getElem_mem hlt)
          have hw6 : IntKind.i64.wrap ((k : Int) + 1) = ((k + 1 : Nat) : Int) := by rw [IntKind.wrap_i64]; have := HT.out; omega
          have HL : Box _ := ⟨HCL.out _ p.1 p.2 HD.out (by have := hok.1; rw [HT.out.1] at this; exact this) hok.2⟩
          have hdr : its.drop k = p :: its.drop (k + 1) := by rw [List.drop_eq_getElem_cons hlt, hp]
          have HDR : Box (its.drop k = p :: its.drop (k + 1) ∧ Ok2 v.n p ∧ k < its.length) := ⟨hdr, hok, hlt⟩
          clear hc hbl hgd hlI hp hdr hok
          by_cases hpl : p.1 = lv + 1
          · have hq : ((p.1 : Int) == L1) = true := by rw [← HL1.out, hpl]; simp
            obtain ⟨x, hx⟩ : ∃ x : Nd v.n, x = ⟨lv, p.2, by have := HDR.out.2.1.1; omega, by rw [← hpl]; exact HDR.out.2.1.2⟩ := ⟨_, rfl⟩
            have hxl : x.l = lv := by rw [hx]
            have hxq : x.i = p.2 := by rw [hx]
            have hxi : itm v.n (x.l + 1) x.i = itm v.n p.1 p.2 := by rw [hxl, hxq, hpl]
            have hcons : nds v.n lv (its.drop k) = x :: nds v.n lv (its.drop (k + 1)) := by rw [HDR.out.1, nds_cons_yes v.n lv p _ ⟨hpl, HDR.out.2.1⟩, hx]
            have HCN : Box (P' ++ [x] ++ (nds v.n lv (its.drop (k + 1)) ++ dnL v.n its lv) = dnL v.n its T) := ⟨by have := HP.out.1; rw [hcons] at this; simpa using this⟩
            have HLN : Box (P'.length < (dnL v.n its (topL v.n)).length) := ⟨by rw [HT.out.1, ← HCN.out]; simp⟩
            have HXI : Box (itm v.n (x.l + 1) x.i = itm v.n p.1 p.2) := ⟨hxi⟩
            clear hcons hxi hx hpl hxl hxq
            gi_wp2_with (first
              | (refine ⟨trivial, ?_⟩; gi_at_call 57; refine (callsIn_wide.2 HL.out).mono ?_; rintro e x2 ⟨rfl, hb⟩; have HX2 : Box (Below wr.heap.size wr x2) := ⟨hb⟩; clear hb; obtain ⟨fn, tmps, assign, body, hy, hR⟩ := HY.out P' x x2 (abides HJ.out HP.out.2 HX2.out) HLN.out; have HRR : Box _ := ⟨hR⟩; clear hR; simp only [encD, HXI.out] at hy))
            refine HRR.out.mono ?_
            rintro e W3 (⟨rfl, hJ3, hk3⟩ | ⟨rfl, hJx3⟩)
            · have HJ3 : Box (J (P' ++ [x]) W3 ∧ Dn W3 Bv Bi V D v sa sc (some ⟨b, o, none⟩) ic (itI v.n its)) := ⟨hJ3, (HD.out.below HX2.out).kps hk3 HS.out⟩
              clear hJ3 hk3
              gi_wp2
              go_roundw
              case rel => exact ⟨k + 1, P' ++ [x], HDR.out.2.2, rfl, ⟨HCN.out, HJ3.out.1⟩, ⟨HJ3.out.2⟩⟩
              case measure => simp [intOf]; have := HDR.out.2.2; omega
            · have HJ3 : Box (Jx (P' ++ [x]) W3) := ⟨hJx3⟩
              clear hJx3
              gi_wp2
              refine bodyPost_ret (results_none rfl _ _ _) rfl ?_
              exact ⟨⟨_, rfl⟩, .inr ⟨_, ⟨_, by rw [HT.out.1]; exact HCN.out⟩, HJ3.out⟩⟩
          · have hq : ((p.1 : Int) == L1) = false := by rw [← HL1.out]; simp; omega
            have HCN : Box (P' ++ (nds v.n lv (its.drop (k + 1)) ++ dnL v.n its lv) = dnL v.n its T) := ⟨by have := HP.out.1; rw [HDR.out.1, nds_cons_no v.n lv p _ hpl] at this; exact this⟩
            clear hpl
            refine wpIn_wide.2 ?_
            go_wp2_with (first
              | (go_at_call 57; refine Calls.mono HL.out ?_; rintro e x2 ⟨rfl, hb⟩; have HX2 : Box (Below wr.heap.size wr x2) := ⟨hb⟩; clear hb))
            go_roundw
            case rel => exact ⟨k + 1, P', HDR.out.2.2, rfl, ⟨HCN.out, abides HJ.out HP.out.2 HX2.out⟩, ⟨HD.out.below HX2.out⟩⟩
            case measure => simp [intOf]; have := HDR.out.2.2; omega
        · have HKE : Box (k = its.length) := ⟨by omega⟩
          have hlt1 : decide ((k : Int) < (its.length : Int)) = false := by simp; omega
          have HPE : Box (P' ++ dnL v.n its lv = dnL v.n its T) := ⟨by have := HP.out.1; rw [HKE.out, List.drop_length] at this; simpa [nds] using this⟩
          gi_wp2
          go_roundw
          case rel => exact ⟨lv, P', by omega, rfl, ⟨HPE.out, HP.out.2⟩, HD⟩
          case measure => simp [intOf]; have := HL1.out; omega
theorem down_stops (n : Nat) (hn : 1 ≤ n) (Bv Bi V D : Nat) (v : Vt) (ok : v.Ok) (sa : Option Addr) (sc : Nat) (ia : Option Addr) (ic : Nat) (its : List (Nat × Nat)) (hits : ∀ p ∈ its, Ok2 v.n p) (hil : its.length ≤ 1000000) (S : Nat → Prop) (hS : ∀ k, dnS Bv Bi V sa ia k → S k) (w : World) (hB : Dn w Bv Bi V D v sa sc ia ic (itI v.n its)) :
    SeqStopsK Fence.wide n Tryz.prog 74 #[.pointer (some ⟨Bv, 0, none⟩), .pointer (some ⟨Bi, 0, none⟩)] (encD v.n) (Kps S) (fun ys => ys = dnL v.n its (topL v.n)) (fun pre => ∃ suf, pre ++ suf = dnL v.n its (topL v.n)) (dnL v.n its (topL v.n)).length w := fun lo J Jx W hW hJ _ hY h0 =>
  down1_in n hn lo Bv Bi V D v ok sa sc ia ic its hits hil S hS J Jx W hJ hY (hB.below hW) h0
theorem down_v (V : Nat) (ia : Option Addr) (len ic : Nat) (x : World) : Calls Tryz.prog 49 #[.pointer (some ⟨V, 0, none⟩), .slice ia len ic] x fun e w' =>
    e = .returned (.func (.func 74) #[] #[.pointer (some ⟨x.heap.size, 0, none⟩), .pointer (some ⟨x.heap.size + 1, 0, none⟩)]) ∧ w' = (x.alloc (.cells #[.pointer (some ⟨V, 0, none⟩)] 31)).alloc (.cells #[.slice ia len ic] 50) := by
  go_enter Tryz.func49, Tryz.ntmps49
  go_wp2
  go_ret
  simp
end Go.Proofs.YthbbijaikcmaeaaGreatDoor
