/-
  What level, place, path and topItem of package vault answer, of a vault in memory.
-/
import Derived.Test.YtnicgmimhgbcfaaGreatDoorW2
namespace Go.Proofs.YtnicgmimhgbcfaaGreatDoor
set_option linter.unusedVariables false
set_option maxRecDepth 100000
open Go.RowKit Plain Go.Proofs.YtnicgmimhgbcfaaGreatDoor.Shap.Plain

theorem lvl_itm (n l i : Nat) (h1 : 1 ≤ n) (h2 : n ≤ 1024) (hl : l ≤ topL n) (hi : i < wd n l) : Shap.Lvl (wid n) (wid n).length (itm n l i : Int) (l : Int) (i : Int) 0 := by
  have hb := topL_bd n h1 h2
  refine .inl ⟨l, by omega, ?_, ?_, rfl, ?_, rfl⟩
  · rw [wid_off n h1 h2 l (by omega)]; unfold itm; omega
  · rw [wid_off n h1 h2 (l + 1) (by omega), off]; unfold itm; omega
  · rw [wid_off n h1 h2 l (by omega)]; unfold itm; omega
theorem itm_itm (n l i : Nat) (h1 : 1 ≤ n) (h2 : n ≤ 1024) (hl : l ≤ topL n) (hi : i < wd n l) : Shap.Itm (wid n) (wid n).length (l : Int) (i : Int) (itm n l i : Int) 0 := by
  have hb := topL_bd n h1 h2
  refine .inl ⟨l, rfl, by omega, by omega, ?_, ?_, rfl⟩
  · rw [wid_wd n h1 h2 l (by omega)]; omega
  · rw [wid_off n h1 h2 l (by omega)]; unfold itm; omega
theorem itm_none (n l i : Nat) (h1 : 1 ≤ n) (h2 : n ≤ 1024) (hl : l ≤ topL n) (hi : wd n l ≤ i) : Shap.Itm (wid n) (wid n).length (l : Int) (i : Int) 0 12 := by
  have hb := topL_bd n h1 h2
  refine .inr ⟨.inr (.inr (.inr ⟨l, rfl, by omega, by omega, ?_⟩)), rfl, rfl⟩
  rw [wid_wd n h1 h2 l (by omega)]; omega
theorem plc_itm (n l i s : Nat) (h1 : 1 ≤ n) (h2 : n ≤ 1024) (hl : l ≤ topL n) (hi : i < wd n l) (hs : s < 2) : Shap.Plc (wid n) (wid n).length (itm n l i : Int) (s : Int) ((2 * itm n l i + s : Nat) : Int) 0 := by
  have := itm_lt n (topL n) l i hl hi
  refine .inl ⟨by omega, ?_, by omega, by omega, by omega, rfl⟩
  rw [wid_items n h1 h2]; omega
section
variable {w0 w : World} {V D : Nat} {fp : Nat → Prop} {v : Vt} {d : Disk.Dk} {sa : Option Addr} {sc : Nat}
theorem level_v (C : VC w0 w V D fp v d sa sc) (l i : Nat) (hl : l ≤ topL v.n) (hi : i < wd v.n l) :
    Calls Tryz.prog 99 #[.pointer (some ⟨V, 0, none⟩), .int .i64 (itm v.n l i : Nat)] w fun e w' => e = .returned (.int .i64 (l : Int)) ∧ Below w.heap.size w w' := by
  have hb := itm_lt v.n (topL v.n) l i hl hi
  have ho := off_le v.n C.ok.lo C.ok.hi
  have HC : Box (Calls Tryz.prog 129 #[.agg #[.slice sa (wid v.n).length sc], .int .i64 (itm v.n l i : Nat)] w fun e w' => e = .returned (.tuple #[.int .i64 (l : Int), .int .i64 (i : Int), .int .i64 0]) ∧ Below w.heap.size w w') := ⟨Shap.level_any sa (wid v.n).length sc _ _ _ _ (wid v.n) w C.ints (shp_wid v.n C.ok.lo C.ok.hi) (by omega) (lvl_itm v.n l i C.ok.lo C.ok.hi hl hi)⟩
  have hR : Box (w.rangeAt V 34 [.slice sa (wid v.n).length sc]) := ⟨C.rd.shp⟩
  clear hl hi hb ho
  go_enter Tryz.func99, Tryz.ntmps99
  go_wp2_with (first
    | (go_at_call 129; refine HC.out.mono ?_; rintro e w' ⟨rfl, hb⟩)
    | (refine atLoad 97 ?_; refine wpList_ldMid rfl 97 _ _ rfl Tryz.underlying97 rfl V 34 rfl [.slice sa (wid v.n).length sc] infoShp hR.out ?_))
  go_ret
  exact ⟨rfl, hb⟩
theorem place_v (C : VC w0 w V D fp v d sa sc) (l i s : Nat) (hl : l ≤ topL v.n) (hi : i < wd v.n l) (hs : s < 2) :
    Calls Tryz.prog 93 #[.pointer (some ⟨V, 0, none⟩), .int .i64 (itm v.n l i : Nat), .int .i64 (s : Int)] w fun e w' => e = .returned (.int .i64 (2 * itm v.n l i + s : Nat)) ∧ Below w.heap.size w w' := by
  have HC : Box (Calls Tryz.prog 122 #[.agg #[.slice sa (wid v.n).length sc], .int .i64 (itm v.n l i : Nat), .int .i64 (s : Int)] w fun e w' => e = .returned (.tuple #[.int .i64 (2 * itm v.n l i + s : Nat), .int .i64 0]) ∧ Below w.heap.size w w') := ⟨Shap.place_any sa (wid v.n).length sc _ _ _ _ (wid v.n) w C.ints (shp_wid v.n C.ok.lo C.ok.hi) (plc_itm v.n l i s C.ok.lo C.ok.hi hl hi hs)⟩
  have hR : Box (w.rangeAt V 34 [.slice sa (wid v.n).length sc]) := ⟨C.rd.shp⟩
  clear hl hi hs
  generalize 2 * itm v.n l i + s = p at *
  go_enter Tryz.func93, Tryz.ntmps93
  go_wp2_with (first
    | (go_at_call 122; refine HC.out.mono ?_; rintro e w' ⟨rfl, hb⟩)
    | (refine atLoad 97 ?_; refine wpList_ldMid rfl 97 _ _ rfl Tryz.underlying97 rfl V 34 rfl [.slice sa (wid v.n).length sc] infoShp hR.out ?_))
  go_ret
  exact ⟨rfl, hb⟩
theorem topItem_v (C : VC w0 w V D fp v d sa sc) :
    Calls Tryz.prog 53 #[.pointer (some ⟨V, 0, none⟩)] w fun e w' => e = .returned (.int .i64 (itm v.n (topL v.n) 0 : Nat)) ∧ Below w.heap.size w w' := by
  have HC : Box _ := ⟨items_of v.n sa sc w C.ok.lo C.ok.hi C.ints⟩
  have hR : Box (w.rangeAt V 34 [.slice sa (wid v.n).length sc]) := ⟨C.rd.shp⟩
  have ho := off_le v.n C.ok.lo C.ok.hi
  have e : itm v.n (topL v.n) 0 + 1 = off v.n (topL v.n + 1) := by
    rw [off, topL_one v.n C.ok.lo C.ok.hi]; rfl
  have hw : IntKind.i64.wrap (((off v.n (topL v.n + 1) : Nat) : Int) - 1) = ((itm v.n (topL v.n) 0 : Nat) : Int) := by rw [IntKind.wrap_i64]; omega
  clear e ho
  generalize itm v.n (topL v.n) 0 = p at *
  go_enter Tryz.func53, Tryz.ntmps53
  go_wp2_with (first
    | (go_at_call 68; refine HC.out.mono ?_; rintro e w' ⟨rfl, hb⟩)
    | (refine atLoad 97 ?_; refine wpList_ldMid rfl 97 _ _ rfl Tryz.underlying97 rfl V 34 rfl [.slice sa (wid v.n).length sc] infoShp hR.out ?_))
  go_ret
  exact ⟨rfl, hb⟩
theorem path_v (C : VC w0 w V D fp v d sa sc) (q : Nat) (hq : q < v.n) :
    Calls Tryz.prog 60 #[.pointer (some ⟨V, 0, none⟩), .int .u64 (q : Int)] w fun e w' => ∃ a cap, e = .returned (.slice a (wid v.n).length cap) ∧ Shap.Ints w' a (wid v.n).length (pth (wid v.n) q (wid v.n).length) ∧ Below w.heap.size w w' ∧ (wid v.n).length ≤ cap ∧ cap ≤ maxLen ∧ ∀ ad, a = some ad → w.heap.size ≤ ad.block := by
  have hi := C.ok.hi
  have HC : Box _ := ⟨Shap.path_ok sa (wid v.n).length sc q (wid v.n) w C.ints (shp_wid v.n C.ok.lo C.ok.hi) (by rw [wid_zero]; omega)⟩
  have hR : Box (w.rangeAt V 34 [.slice sa (wid v.n).length sc]) := ⟨C.rd.shp⟩
  have hw : IntKind.i64.wrap (q : Int) = (q : Int) := by rw [IntKind.wrap_i64]; omega
  clear hq hi
  go_enter Tryz.func60, Tryz.ntmps60
  go_wp2_with (first
    | (go_at_call 101; refine Calls.mono HC.out ?_; rintro e w' ⟨a, cap, rfl, hI, hb, hc1, hc2, hc3⟩; have HH : Box (Shap.Ints w' a (wid v.n).length (pth (wid v.n) q (wid v.n).length) ∧ Below w.heap.size w w' ∧ (wid v.n).length ≤ cap ∧ cap ≤ maxLen ∧ ∀ ad, a = some ad → w.heap.size ≤ ad.block) := ⟨hI, hb, hc1, hc2, hc3⟩; clear hI hb hc1 hc2 hc3)
    | (refine atLoad 97 ?_; refine wpList_ldMid rfl 97 _ _ rfl Tryz.underlying97 rfl V 34 rfl [.slice sa (wid v.n).length sc] infoShp hR.out ?_))
  go_ret
  exact ⟨a, cap, rfl, HH.out⟩
end
end Go.Proofs.YtnicgmimhgbcfaaGreatDoor
