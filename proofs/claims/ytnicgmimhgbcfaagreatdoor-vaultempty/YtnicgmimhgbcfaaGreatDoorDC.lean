/-
  Package disk, third part.
-/
import Derived.Test.YtnicgmimhgbcfaaGreatDoorDB
namespace Go.Proofs.YtnicgmimhgbcfaaGreatDoor.Disk.Plain
end Go.Proofs.YtnicgmimhgbcfaaGreatDoor.Disk.Plain
namespace Go.Proofs.YtnicgmimhgbcfaaGreatDoor.Disk
set_option linter.unusedVariables false
set_option maxRecDepth 100000
open Go.RowKit Go.Proofs.YtnicgmimhgbcfaaGreatDoor.Plain Go.Proofs.YtnicgmimhgbcfaaGreatDoor.Disk.Plain

/-- A row of truth values in memory. -/
def Bools (w : World) (a : Option Addr) (len : Nat) (K : List Bool) : Prop := K.length = len ∧ (0 < len → ∃ b off, a = some ⟨b, off, none⟩ ∧ b < w.heap.size ∧ ∀ i, i < len → w.cell? ⟨b, off + i, none⟩ = some (.bool (K.getD i false)))
theorem Bools.turned {fp : Nat → Prop} {w w' : World} {a : Option Addr} {len : Nat} {K : List Bool} (h : Bools w a len K) (t : Turned fp w w') (hn : ∀ ad, a = some ad → 0 < len → ¬ fp ad.block) : Bools w' a len K := by
  refine ⟨h.1, fun h0 => ?_⟩
  obtain ⟨b, off, rfl, hb, hc⟩ := h.2 h0
  exact ⟨b, off, rfl, Nat.lt_of_lt_of_le hb t.size, fun i hi => t.cell (hc i hi) (hn ⟨b, off, none⟩ rfl h0)⟩
/-- The writes that are kept. -/
def kp (L : List (Nat × List Int)) (K : List Bool) : List (Nat × List Int) := (L.zipIdx.filter (fun x => K.getD x.2 false)).map Prod.fst
theorem kp_succ (L : List (Nat × List Int)) (K : List Bool) (k : Nat) (h : k < L.length) : kp (L.take (k + 1)) K = kp (L.take k) K ++ (if K.getD k false then [L[k]] else []) := by
  unfold kp
  rw [← List.take_append_getElem h, List.zipIdx_append, List.filter_append, List.map_append]
  congr 1
  have : (L.take k).length = k := by simp; omega
  simp only [this, Nat.zero_add, List.zipIdx_cons, List.zipIdx_nil, List.filter_cons, List.filter_nil]
  split <;> simp
def crPl (d : Dk) (K : List Bool) (k : Nat) : Dk := { d with pl := lay (kp (d.uw.take k) K) d.pl }
theorem crPl_zero (d : Dk) (K : List Bool) : crPl d K 0 = d := rfl
theorem crPl_no (d : Dk) (K : List Bool) (k : Nat) (h : k < d.uw.length) (hk : K.getD k false = false) : crPl d K (k + 1) = crPl d K k := by
  simp only [crPl]
  rw [kp_succ _ _ _ h, hk]
  simp
theorem crPl_yes (d : Dk) (K : List Bool) (k : Nat) (h : k < d.uw.length) (hk : K.getD k false = true) : ({ crPl d K k with pl := upd (crPl d K k).pl d.uw[k].1 d.uw[k].2 } : Dk) = crPl d K (k + 1) := by
  simp only [crPl]
  rw [kp_succ _ _ _ h, if_pos hk, lay_snoc]
theorem At.set3a {w : World} {D P : Nat} {uv ov : Value} {d : Dk} (h : At w D P uv ov d) (b : Bool) : At (w.setCell ⟨D, 3, none⟩ (.bool b)) D P uv ov { d with down := b } ∧ Turned (foot D P uv ov) w (w.setCell ⟨D, 3, none⟩ (.bool b)) :=
  ⟨h.put b d.st d.left (fun k hk => by rw [heap_setCell_other _ ⟨D, 3, none⟩ k _ hk]) (heap_setCell_same w D 3 _ _ _ h.hd), turned_set (Turned.refl _ _) (.inl rfl) _⟩
def crOk (d : Dk) (K : List Bool) : Dk := { d with pl := lay (kp d.uw K) d.pl, uw := [], down := false, st := false, left := 0 }
set_option maxRecDepth 20000 in
set_option maxHeartbeats 4000000 in
theorem crash_any (w : World) (D : Nat) (fp : Nat → Prop) (d : Dk) (h : Is w D fp d) (ka : Option Addr) (kl kc : Nat) (K : List Bool) (hK : Bools w ka kl K) (hKn : ∀ ad, ka = some ad → 0 < kl → ¬ fp ad.block) (hu : d.uw.length < 1000000) (hkl : kl ≤ maxLen) :
    Calls Tryz.prog 23 #[.pointer (some ⟨D, 0, none⟩), .slice ka kl kc] w fun e w' => e = .returned (.tuple #[]) ∧ Nx D fp w w' (crOk d K) := by
  obtain ⟨P, uv, ov, h1, h2⟩ := h
  obtain ⟨a, cap, rfl⟩ := own_form2 h1.hu
  obtain ⟨c0, c1, -, -, -, -, fz⟩ := h1.cells
  have HF : Box (∀ k, foot D P (.slice a d.uw.length cap) ov k → fp k) := ⟨h2⟩
  have HB : Box (∀ wx, Turned (foot D P (.slice a d.uw.length cap) ov) w wx → Bools wx ka kl K) := ⟨fun wx ht => hK.turned ht (fun ad e h0 hf => hKn ad e h0 (h2 _ hf))⟩
  have HA : Box (At w D P (.slice a d.uw.length cap) ov (crPl d K 0) ∧ Turned (foot D P (.slice a d.uw.length cap) ov) w w) := ⟨h1, Turned.refl _ _⟩
  have hu2 : d.uw.length < 9223372036854775807 := by omega
  have hkl2 : kl < 9223372036854775808 := by unfold maxLen at hkl; omega
  clear h1 h2 hu fz hK hKn hkl
  go_enter Tryz.func23, Tryz.ntmps23
  go_wp2
  go_loopw [13] (fun i wr => ∃ k : Nat, k ≤ d.uw.length ∧ i = .int .i64 k ∧ Box (At wr D P (.slice a d.uw.length cap) ov (crPl d K k) ∧ Turned (foot D P (.slice a d.uw.length cap) ov) w wr)) (fun i _ => d.uw.length - (intOf i).toNat)
  case atStart => exact ⟨0, Nat.zero_le _, rfl, HA⟩
  case round =>
    clear HA c0 c1
    obtain ⟨k, hk, rfl, HK⟩ := hrel
    by_cases hlt : k < d.uw.length
    · have hgood := HK.out.1.huw d.uw[k] (List.getElem_mem hlt)
      obtain ⟨g, rfl, hg, hr⟩ := At.ways (d := crPl d K k) HK.out.1 (show 0 < d.uw.length by omega)
      have hrk : Box (wr.rangeAt g (k * 193) (wc d.uw[k])) := ⟨hr k hlt⟩
      have HE := crPl_yes d K k hlt
      have HE0 : Box (K.getD k false = false → crPl d K (k + 1) = crPl d K k) := ⟨crPl_no d K k hlt⟩
      obtain ⟨x, hx⟩ : ∃ x, d.uw[k] = x := ⟨_, rfl⟩
      rw [hx] at hgood hrk HE
      obtain ⟨p, b⟩ := x
      replace HE : Box (K.getD k false = true → ({ crPl d K k with pl := upd (crPl d K k).pl p b } : Dk) = crPl d K (k + 1)) := ⟨HE⟩
      have HI : Box ((Tryz.prog.info? 137).map (·.size) = some (wc (p, b)).length) := ⟨by rw [length_wc _ hgood.2.1]; exact info84⟩
      have HI2 : Box ((Tryz.prog.info? 137).map (·.size) = some (wc (p, b)).toArray.size) := ⟨by rw [List.size_toArray, length_wc _ hgood.2.1]; exact info84⟩
      have hz : (wc (0, z192)).toArray.size = (wc (p, b)).length := by rw [length_wc _ hgood.2.1]; exact length_wc _ length_z192
      have HN : Box _ := ⟨laid_new wr (wc (0, z192)).toArray 137 (wc (p, b)) hz⟩
      have HT : Box ((wr.alloc (.cells (wc (0, z192)).toArray 137)).there wr.heap.size 0 (wc (p, b)).toArray.size) := ⟨there_row (al_at rfl) (by rw [hz]; simp)⟩
      have HLy : Box (Lay ((wr.alloc (.cells (wc (0, z192)).toArray 137)).setCells wr.heap.size 0 (wc (p, b))) D P wr.heap.size d.n p b) := ⟨HK.out.1.layAt HN.out.1 p b hgood.1 hgood.2.1 HN.out.2.2⟩
      have HLd : Box _ := ⟨HK.out.1.laid HN.out.1.drew p b hgood.1 hgood.2⟩
      have HPn : Box (p < d.n) := ⟨hgood.1⟩
      have HTn : Box (Turned (foot D P (.slice (some ⟨g, 0, none⟩) d.uw.length cap) ov) w wr) := ⟨HK.out.2⟩
      have HKc : Box (Bools ((wr.alloc (.cells (wc (0, z192)).toArray 137)).setCells wr.heap.size 0 (wc (p, b))) ka kl K) := ⟨HB.out _ (HTn.out.trans (Turned.of_below (fp := fun _ => False) HN.out.1) (fun _ h => h.elim))⟩
      have HAt : Box (At wr D P (.slice (some ⟨g, 0, none⟩) d.uw.length cap) ov (crPl d K k)) := ⟨HK.out.1⟩
      clear HK hgood hr hg hx hz
      by_cases hkk : k < kl
      · obtain ⟨kb, ko, rfl, hkb, hkc⟩ := HKc.out.2 (by omega)
        have ck := hkc k hkk
        clear hkb hkc
        cases hKk : K.getD k false
        case false =>
          rw [hKk] at ck
          go_wp2_with (first
            | (refine wpList_load_mid rfl 137 _ rfl g (k * 193) rfl (wc (p, b)) _ hrk.out Tryz.underlying137 rfl HI.out ?_)
            | (refine wpList_run rfl _ _ (exec_alloc 137 rfl _ zero84) ?_)
            | (refine wpList_store_mid rfl 137 _ _ rfl wr.heap.size 0 (wc (p, b)).toArray rfl rfl HT.out HI2.out (all_oneCell_toArray (one_wc _)) ?_; generalize (wr.alloc (.cells (wc (0, z192)).toArray 137)).setCells wr.heap.size 0 (wc (p, b)).toArray.toList = wx at HN HLy HLd HKc ck ⊢))
          exact ⟨⟨k + 1, by omega, by simp, ⟨by rw [HE0.out hKk]; exact HAt.out.below HN.out.1, HTn.out.trans (Turned.of_below (fp := fun _ => False) HN.out.1) (fun _ h => h.elim)⟩⟩, by simp [intOf]; omega⟩
        case true =>
          rw [hKk] at ck
          go_upto_region 5 with (first
            | (refine wpList_load_mid rfl 137 _ rfl g (k * 193) rfl (wc (p, b)) _ hrk.out Tryz.underlying137 rfl HI.out ?_)
            | (refine wpList_run rfl _ _ (exec_alloc 137 rfl _ zero84) ?_)
            | (refine wpList_store_mid rfl 137 _ _ rfl wr.heap.size 0 (wc (p, b)).toArray rfl rfl HT.out HI2.out (all_oneCell_toArray (one_wc _)) ?_; generalize (wr.alloc (.cells (wc (0, z192)).toArray 137)).setCells wr.heap.size 0 (wc (p, b)).toArray.toList = wx at HN HLy HLd HKc ck ⊢))
          rename_i KK ax
          try simp only [Act.put, List.setIfInBounds_toArray, List.set_cons_zero, List.set_cons_succ, List.getElem_toArray, List.getElem_cons_zero, List.getElem_cons_succ]
          refine begin_but (P) (by kernel_rfl) (fun wd hwd => ?_)
          have GF : Box (Lay wd D P wr.heap.size d.n p b) := ⟨HLy.out.drew hwd⟩
          have hpn : p < d.n := HPn.out
          refine take_but (i := 0) (v := ?_) rfl (by kernel_rfl) (by kernel_rfl) (by kernel_rfl) (fun _ _ _ h => h) (by rfl) ?_ ?_
          rotate_left
          · intro w' hB; clear hB; go_simp <;> with_reducible rfl
          try simp only [Act.put, List.setIfInBounds_toArray, List.set_cons_zero, List.set_cons_succ, List.getElem_toArray, List.getElem_cons_zero]
          refine take_but (i := 1) (v := ?_) rfl (by kernel_rfl) (by kernel_rfl) (by kernel_rfl) (fun _ _ _ h => h) (by rfl) ?_ ?_
          rotate_left
          · intro w' hB; clear hB; go_simp <;> with_reducible rfl
          try simp only [Act.put, List.setIfInBounds_toArray, List.set_cons_zero, List.set_cons_succ, List.getElem_toArray, List.getElem_cons_zero, List.getElem_cons_succ]
          refine take_but (i := 2) (v := ?_) rfl (by kernel_rfl) (by kernel_rfl) (by kernel_rfl) (fun _ _ _ h => h) (by rfl) ?_ ?_
          rotate_left
          · intro w' hB; clear hB; go_simp <;> with_reducible rfl
          try simp only [Act.put, List.setIfInBounds_toArray, List.set_cons_zero, List.set_cons_succ, List.getElem_toArray, List.getElem_cons_zero, List.getElem_cons_succ]
          refine take_but (i := 3) (v := .slice (some ⟨P, 0, none⟩) d.n d.n) rfl (by kernel_rfl) (by kernel_rfl) (by kernel_rfl) (fun _ _ _ h => h) (by rfl) (fun w' hB => exec_load1 92 _ _ rfl Tryz.underlying92 rfl _ rfl _ (but_cell hB GF.out.c0 GF.out.n0)) ?_
          try simp only [Act.put, List.setIfInBounds_toArray, List.set_cons_zero, List.set_cons_succ, List.getElem_toArray, List.getElem_cons_zero, List.getElem_cons_succ]
          refine take_but (i := 4) (v := ?_) rfl (by kernel_rfl) (by kernel_rfl) (by kernel_rfl) (fun _ _ _ h => h) (by rfl) ?_ ?_
          rotate_left
          · intro w' hB; clear hB; go_simp <;> with_reducible rfl
          try simp only [Act.put, List.setIfInBounds_toArray, List.set_cons_zero, List.set_cons_succ, List.getElem_toArray, List.getElem_cons_zero, List.getElem_cons_succ]
          refine take_but (i := 5) (v := .int .i64 (p : Int)) rfl (by kernel_rfl) (by kernel_rfl) (by kernel_rfl) (fun _ _ _ h => h) (by rfl) (fun w' hB => exec_load1 3 _ _ rfl Tryz.underlying3 rfl _ rfl _ (but_cell hB GF.out.cx GF.out.nx)) ?_
          try simp only [Act.put, List.setIfInBounds_toArray, List.set_cons_zero, List.set_cons_succ, List.getElem_toArray, List.getElem_cons_zero, List.getElem_cons_succ]
          refine take_but (i := 6) (v := ?_) rfl (by kernel_rfl) (by kernel_rfl) (by kernel_rfl) (fun _ _ _ h => h) (by rfl) ?_ ?_
          rotate_left
          · intro w' hB; clear hB; go_simp <;> with_reducible rfl
          try simp only [Act.put, List.setIfInBounds_toArray, List.set_cons_zero, List.set_cons_succ, List.getElem_toArray, List.getElem_cons_zero, List.getElem_cons_succ]
          refine take_but (i := 7) (v := .agg (u8s b)) rfl (by kernel_rfl) (by kernel_rfl) (by kernel_rfl) (fun _ _ _ h => h) (by rfl) (fun w' hB => exec_load_mid 135 _ _ rfl Tryz.underlying135 rfl wr.heap.size 1 rfl (b.map (Value.int .u8)) GF.out.iz (but_range hB GF.out.rx GF.out.nx)) ?_
          try simp only [Act.put, List.setIfInBounds_toArray, List.set_cons_zero, List.set_cons_succ, List.getElem_toArray, List.getElem_cons_zero, List.getElem_cons_succ]
          refine take_but (i := 8) (v := ?_) rfl (by kernel_rfl) (by kernel_rfl) (by kernel_rfl) (fun _ _ _ h => h) (by rfl) ?_ ?_
          rotate_left
          · intro w' hB; clear hB; go_simp <;> with_reducible rfl
          try simp only [Act.put, List.setIfInBounds_toArray, List.set_cons_zero, List.set_cons_succ, List.getElem_toArray, List.getElem_cons_zero, List.getElem_cons_succ]
          refine last_but (i := 9) rfl (by kernel_rfl) (by rfl) (by kernel_rfl) 135 _ _ rfl (p * 192) (u8s b) rfl rfl GF.out.th GF.out.iy (all_u8s _) ?_
          show KK _ _
          refine ax _ _ ?_
          try simp only [Act.put, List.getElem_toArray, List.getElem_cons_zero, List.getElem_cons_succ]
          have HL2 : Box _ := ⟨HLd.out⟩
          rw [HE.out hKk] at HL2
          rw [hwd]
          generalize (wx.drew.setCells P (p * 192) (u8s b).toList) = wy at HL2 ⊢
          clear ax HLd HE HLy GF HT HN HI HI2 hrk hwd ck HKc HB
          go_wp2
          go_roundw
          case rel => exact ⟨k + 1, by omega, by simp, ⟨HL2.out.1, HTn.out.trans HL2.out.2 (fun _ hk => .inl hk)⟩⟩
          case measure => simp [intOf]; omega
      · have hKk : K.getD k false = false := by
          have := HKc.out.1
          simp [List.getD, List.getElem?_eq_none (show K.length ≤ k by omega)]
        go_wp2_with (first
          | (refine wpList_load_mid rfl 137 _ rfl g (k * 193) rfl (wc (p, b)) _ hrk.out Tryz.underlying137 rfl HI.out ?_)
          | (refine wpList_run rfl _ _ (exec_alloc 137 rfl _ zero84) ?_)
          | (refine wpList_store_mid rfl 137 _ _ rfl wr.heap.size 0 (wc (p, b)).toArray rfl rfl HT.out HI2.out (all_oneCell_toArray (one_wc _)) ?_; generalize (wr.alloc (.cells (wc (0, z192)).toArray 137)).setCells wr.heap.size 0 (wc (p, b)).toArray.toList = wx at HN HLy HLd HKc ⊢))
        exact ⟨⟨k + 1, by omega, by simp, ⟨by rw [HE0.out hKk]; exact HAt.out.below HN.out.1, HTn.out.trans (Turned.of_below (fp := fun _ => False) HN.out.1) (fun _ h => h.elim)⟩⟩, by simp [intOf]; omega⟩
    · obtain rfl : k = d.uw.length := by omega
      have HK2 : Box (At wr D P (.slice a d.uw.length cap) ov (crPl d K d.uw.length)) := ⟨HK.out.1⟩
      obtain ⟨-, c1, -, c3, -, -, fz⟩ := HK2.out.cells
      have f1 := fz 1
      have f3 := fz 3
      have HW : Box _ := ⟨HK2.out.noway⟩
      have HW3 : Box _ := ⟨HW.out.1.set3a false⟩
      clear fz
      go_wp2_with (go_at_call 43; refine (stop_any _ D _ _ ⟨P, _, ov, HW3.out.1, fun _ hk => hk⟩ (-1)).mono ?_; rintro e w4 ⟨rfl, hn4⟩; have HN4 : Box _ := ⟨hn4⟩; clear hn4)
      go_end0
      refine ⟨rfl, ?_⟩
      have hfl : ({ crPl d K d.uw.length with uw := [], down := false, st := decide (0 ≤ (-1 : Int)), left := max (-1) 0 } : Dk) = crOk d K := by simp [crOk, crPl]; omega
      rw [← hfl]
      obtain ⟨v1, v2, v3⟩ := HW.out
      have t1 := HK.out.2.trans v2 (fun _ hk => .inl hk)
      have t2 := t1.trans HW3.out.2 (fun k hk => .inl (v3 k hk))
      refine Nx.trans (fp' := foot D P (.slice none 0 0) ov) (d' := d) ⟨t2.os, t2.tape, t2.output, t2.size, fun k hk hn => t2.block k hk (fun hf => hn (HF.out k hf))⟩ (fun k hk => .inl (HF.out k (v3 k hk))) HN4.out
set_option maxRecDepth 20000 in
set_option maxHeartbeats 2000000 in
theorem crash_none (w : World) (ka : Option Addr) (kl kc : Nat) : Calls Tryz.prog 23 #[.pointer none, .slice ka kl kc] w fun e w' => e = .returned (.tuple #[]) ∧ w = w' := by
  go_enter Tryz.func23, Tryz.ntmps23
  go_wp2
  refine bodyPost_ret (results_none rfl _ _ _) rfl ?_
  exact ⟨rfl, rfl⟩
end Go.Proofs.YtnicgmimhgbcfaaGreatDoor.Disk
namespace Go.Proofs.YtnicgmimhgbcfaaGreatDoor.Disk.Plain
end Go.Proofs.YtnicgmimhgbcfaaGreatDoor.Disk.Plain
namespace Go.Proofs.YtnicgmimhgbcfaaGreatDoor.Disk
set_option linter.unusedVariables false
open Go.RowKit Go.Proofs.YtnicgmimhgbcfaaGreatDoor.Plain Go.Proofs.YtnicgmimhgbcfaaGreatDoor.Disk.Plain

theorem ops_none (w : World) : Calls Tryz.prog 30 #[.pointer none] w fun e w' => e = .returned (.slice none 0 0) ∧ w = w' := by
  go_enter Tryz.func30, Tryz.ntmps30
  go_wp2
  go_ret
  exact ⟨rfl, rfl⟩
theorem image_none (w : World) : Calls Tryz.prog 24 #[.pointer none] w fun e w' => e = .returned (.slice none 0 0) ∧ w = w' := by
  go_enter Tryz.func24, Tryz.ntmps24
  go_wp2
  go_ret
  exact ⟨rfl, rfl⟩
/-- Nothing is appended out of a row of none. -/
theorem own_empty (w : World) (e : TypeId) (sz : Nat) : (w.alloc (.cells #[] e)).ownsRow 0 e sz (.slice (some ⟨w.heap.size, 0, none⟩) 0 0) 0 [] := World.ownsRow_made w #[] 0 (Nat.zero_le _) (by unfold maxLen; omega) (by simp)
theorem eqIn_nil {P : Program} (w : World) (n : Nat) (t e : TypeId) (a : Option Addr) (l c : Nat) (h : P.underlying t = some (.slice e)) : (Op.equalIn (n + 1) t (.slice a l c) (.slice none 0 0)).run P w = .ok a.isNone w := by
  cases a <;> simp [Op.equalIn, run_underlying h]
theorem eql_nil {P : Program} (w : World) (t e : TypeId) (a : Option Addr) (l c : Nat) (h : P.underlying t = some (.slice e)) : (binOp .eql t (.slice a l c) (.slice none 0 0)).run P w = .ok (.bool a.isNone) w := by
  have h1 : (Op.equal t (.slice a l c) (.slice none 0 0)).run P w = .ok a.isNone w := eqIn_nil w 9999 t e a l c h
  simp only [binOp]
  simp [h1]
theorem below_grown {w w2 : World} {o : Obj} {row : Option Nat} (hg : (w.alloc o).grownBy w2 row) (hr : ∀ k, row = some k → w.heap.size ≤ k) : Below w.heap.size w w2 :=
  ((Below.refl _ w).alloc (Nat.le_refl _) o).grown hg (by simp) hr
set_option maxRecDepth 20000 in
set_option maxHeartbeats 1000000 in
theorem clone_ops (w : World) (v : Value) (L : List (Int × Int)) (h : w.ownsRow 0 158 2 v L.length (ocs L)) (hl : L.length < 1000000) :
    Calls Tryz.prog 66 #[v] w fun e w' => ∃ v', e = .returned v' ∧ w'.ownsRow 0 158 2 v' L.length (ocs L) ∧ Below w.heap.size w w' ∧ ∀ k, v'.ownBlock = some k → w.heap.size ≤ k := by
  have HH : Box (w.ownsRow 0 158 2 v L.length (ocs L)) := ⟨h⟩
  have HB : Box ((0 + L.length) * 16 ≤ 140737488355328) := ⟨by omega⟩
  have HN : Box ((ocs L).length = L.length * 2) := ⟨by rw [ocs, flat_length _ 2 (ocs_all L), List.length_map]⟩
  have HO : Box (∀ u ∈ ocs L, u.oneCell' = true) := ⟨fun u hu => by
    obtain ⟨l, hl, hu⟩ := List.mem_flatten.1 hu
    obtain ⟨x, _, rfl⟩ := List.mem_map.1 hl
    exact one_oc x u hu⟩
  clear hl
  rcases h.2 with ⟨rfl, h0⟩ | ⟨g, cap, cur, rfl, _, hg, _⟩
  · have hq : ∀ x, (binOp .eql 85 (.slice none 0 0) (.slice none 0 0)).run Tryz.prog x = .ok (.bool true) x := fun x => eql_nil x 85 _ none 0 0 Tryz.underlying85
    clear h
    go_enter Tryz.func66, Tryz.ntmps66
    go_wp2
    go_ret
    exact ⟨_, rfl, HH.out, Below.refl _ _, fun k hk => by simp [Value.ownBlock] at hk⟩
  · have HC : Box (∀ j u, (ocs L)[j]? = some u → w.cell? ((⟨g, 0, none⟩ : Addr).add j) = some u) := ⟨HH.out.cells (g := g) rfl⟩
    have hq : ∀ x, (binOp .eql 85 (.slice (some ⟨g, 0, none⟩) L.length cap) (.slice none 0 0)).run Tryz.prog x = .ok (.bool false) x := fun x => eql_nil x 85 _ _ _ _ Tryz.underlying85
    clear h hg
    go_enter Tryz.func66, Tryz.ntmps66
    go_wp2_with (at_builtin; refine wpList_app2 rfl _ _ 85 rfl 158 2 16 (.agg (oc (0, 0)).toArray) Tryz.underlying85 info75 rfl (by decide) _ 0 [] rfl (own_empty w _ 2) ⟨g, 0, none⟩ L.length cap (ocs L) rfl HN.out (fun j u hj => cell_al _ (HC.out j u hj)) HO.out HB.out (by decide) ?_; intro v' w2 hown hgr hblk; have HX : Box (_ ∧ _ ∧ _) := ⟨hown, hgr, hblk⟩; clear hown hgr hblk)
    go_ret
    obtain ⟨x1, x2, x3⟩ := HX.out
    rw [Nat.zero_add] at x1
    have hz : ∀ k, Value.ownBlock (.slice (some ⟨w.heap.size, 0, none⟩) 0 0) = some k → w.heap.size ≤ k := fun k hk => by simp [Value.ownBlock] at hk; omega
    exact ⟨_, rfl, x1, below_grown x2 hz, fun k hk => (x3 k hk).elim (hz k) (fun h => by simp at h; omega)⟩
set_option maxRecDepth 20000 in
set_option maxHeartbeats 1000000 in
theorem clone_bytes (w : World) (b off n cap : Nat) (B : List Int) (h : w.rangeAt b off (B.map (Value.int .u8))) (hB : B.length = n) (hl : n < 1000000) :
    Calls Tryz.prog 56 #[.slice (some ⟨b, off, none⟩) n cap] w fun e w' => ∃ v', e = .returned v' ∧ w'.ownsRow 0 5 1 v' n (B.map (Value.int .u8)) ∧ Below w.heap.size w w' ∧ ∀ k, v'.ownBlock = some k → w.heap.size ≤ k := by
  have HB : Box ((0 + n) * 1 ≤ 140737488355328) := ⟨by omega⟩
  have HN : Box ((B.map (Value.int .u8)).length = n * 1) := ⟨by simp [hB]⟩
  have HO : Box (∀ u ∈ B.map (Value.int .u8), u.oneCell' = true) := ⟨ints_oneCell _ _⟩
  have HC : Box (∀ j u, (B.map (Value.int .u8))[j]? = some u → w.cell? ((⟨b, off, none⟩ : Addr).add j) = some u) := ⟨fun j u hj => by rw [Addr.add_mid]; exact h j u hj⟩
  have hq : ∀ x, (binOp .eql 62 (.slice (some ⟨b, off, none⟩) n cap) (.slice none 0 0)).run Tryz.prog x = .ok (.bool false) x := fun x => eql_nil x 62 _ _ _ _ Tryz.underlying62
  clear h hl hB
  go_enter Tryz.func56, Tryz.ntmps56
  go_wp2_with (at_builtin; refine wpList_app2 rfl _ _ 62 rfl 5 1 1 (.int .u8 0) Tryz.underlying62 info5 rfl (by decide) _ 0 [] rfl (own_empty w _ 1) ⟨b, off, none⟩ n cap (B.map (Value.int .u8)) rfl HN.out (fun j u hj => cell_al _ (HC.out j u hj)) HO.out HB.out (by decide) ?_; intro v' w2 hown hgr hblk; have HX : Box (_ ∧ _ ∧ _) := ⟨hown, hgr, hblk⟩; clear hown hgr hblk)
  go_ret
  obtain ⟨x1, x2, x3⟩ := HX.out
  rw [Nat.zero_add] at x1
  have hz : ∀ k, Value.ownBlock (.slice (some ⟨w.heap.size, 0, none⟩) 0 0) = some k → w.heap.size ≤ k := fun k hk => by simp [Value.ownBlock] at hk; omega
  exact ⟨_, rfl, x1, below_grown x2 hz, fun k hk => (x3 k hk).elim (hz k) (fun h => by simp at h; omega)⟩
set_option maxRecDepth 20000 in
set_option maxHeartbeats 1000000 in
theorem ops_any (w : World) (D P : Nat) (uv ov : Value) (d : Dk) (h : At w D P uv ov d) (hl : d.ops.length < 1000000) :
    Calls Tryz.prog 30 #[.pointer (some ⟨D, 0, none⟩)] w fun e w' => ∃ v', e = .returned v' ∧ w'.ownsRow 0 158 2 v' d.ops.length (ocs d.ops) ∧ Below w.heap.size w w' ∧ ∀ k, v'.ownBlock = some k → w.heap.size ≤ k := by
  obtain ⟨-, -, c2, -, -, -, -⟩ := h.cells
  have HC : Box _ := ⟨clone_ops w ov d.ops h.ho hl⟩
  clear h hl
  go_enter Tryz.func30, Tryz.ntmps30
  go_wp2_with (go_at_call 66; refine HC.out.mono ?_; rintro e w' ⟨v', rfl, h3⟩; have HX : Box _ := ⟨h3⟩; clear h3)
  go_ret
  exact ⟨_, rfl, HX.out⟩
end Go.Proofs.YtnicgmimhgbcfaaGreatDoor.Disk
namespace Go.Proofs.YtnicgmimhgbcfaaGreatDoor.Disk.Plain
end Go.Proofs.YtnicgmimhgbcfaaGreatDoor.Disk.Plain
namespace Go.Proofs.YtnicgmimhgbcfaaGreatDoor.Disk
set_option linter.unusedVariables false
open Go.RowKit Go.Proofs.YtnicgmimhgbcfaaGreatDoor.Plain Go.Proofs.YtnicgmimhgbcfaaGreatDoor.Disk.Plain

/-- A disk of a call's own: all its blocks are newer than w0's. -/
structure Cx (w0 w : World) (D : Nat) (fp : Nat → Prop) (d : Dk) : Prop where
  is : Is w D fp d
  bel : Below w0.heap.size w0 w
  lo : ∀ k, fp k → w0.heap.size ≤ k
  hi : ∀ k, fp k → k < w.heap.size
/-- What follows: nothing but the disk's blocks has turned, and it has taken none of another's. -/
structure Fol (w : World) (fp : Nat → Prop) (w' : World) (fp' : Nat → Prop) : Prop where
  t : Turned fp w w'
  k : ∀ k, k < w.heap.size → ¬ fp k → ¬ fp' k
/-- A row of bytes that is not the disk's. -/
structure Loc (w : World) (fp : Nat → Prop) (g : Nat) (B : List Int) (t : TypeId) : Prop where
  row : w.heap[g]? = some (.cells (u8s B) t (0, 0))
  no : ¬ fp g
theorem Loc.lt {w : World} {fp : Nat → Prop} {g : Nat} {B : List Int} {t : TypeId} (h : Loc w fp g B t) : g < w.heap.size := (Array.getElem?_eq_some_iff.1 h.row).1
theorem Loc.fol {w w' : World} {fp fp' : Nat → Prop} {g : Nat} {B : List Int} {t : TypeId} (h : Loc w fp g B t) (f : Fol w fp w' fp') : Loc w' fp' g B t :=
  ⟨(f.t.block g h.lt h.no).trans h.row, f.k g h.lt h.no⟩
theorem Loc.below {w w' : World} {fp : Nat → Prop} {g : Nat} {B : List Int} {t : TypeId} (h : Loc w fp g B t) (hb : Below w.heap.size w w') : Loc w' fp g B t := ⟨(hb.block g h.lt).trans h.row, h.no⟩
theorem Loc.bytes {w : World} {fp : Nat → Prop} {g : Nat} {B : List Int} {t : TypeId} (h : Loc w fp g B t) (hB : Byt B) (n : Nat) (hn : B.length = n) : Bytes w (some ⟨g, 0, none⟩) n B := by
  subst hn
  exact bytes_of_row hB h.row
theorem Cx.step {w0 w w' : World} {D : Nat} {fp : Nat → Prop} {d : Dk} (h : Cx w0 w D fp d) (hb : Below w.heap.size w w') : Cx w0 w' D fp d :=
  ⟨h.is.below hb, below_to h.bel hb, h.lo, fun k hk => Nat.lt_of_lt_of_le (h.hi k hk) hb.size⟩
theorem Cx.nx {w0 w w' : World} {D : Nat} {fp : Nat → Prop} {d d' : Dk} (h : Cx w0 w D fp d) (n : Nx D fp w w' d') : ∃ fp', Cx w0 w' D fp' d' ∧ Fol w fp w' fp' := by
  obtain ⟨f, i, t, s⟩ := n
  refine ⟨_, ⟨i.cut, h.bel.trans (t.below h.bel.size h.lo), fun k hk => ?_, fun k hk => hk.2⟩, ⟨t, fun k hk hn hf => (s k hf.1).elim hn (fun h => by omega)⟩⟩
  rcases s k hk.1 with h1 | h1
  · exact h.lo k h1
  · exact Nat.le_trans h.bel.size h1
theorem Cx.set {w0 w : World} {D : Nat} {fp : Nat → Prop} {d : Dk} (h : Cx w0 w D fp d) (g i : Nat) (v : Value) (hn : ¬ fp g) (hg : w0.heap.size ≤ g) : Cx w0 (w.setCell ⟨g, i, none⟩ v) D fp d :=
  ⟨h.is.same (fun k hk _ => heap_setCell_other w ⟨g, i, none⟩ k _ (fun e => hn (by have e' : g = k := e.symm; rw [e']; exact hk))), below_set h.bel hg v, h.lo, fun k hk => by simpa using h.hi k hk⟩
theorem Loc.set {w : World} {fp : Nat → Prop} {g : Nat} {B : List Int} {t : TypeId} (h : Loc w fp g B t) (i : Nat) (z : Int) : Loc (w.setCell ⟨g, i, none⟩ (.int .u8 z)) fp g (B.set i z) t :=
  ⟨by rw [heap_setCell_same w g i _ t _ h.row, u8s_set], h.no⟩
theorem Loc.other {w : World} {fp : Nat → Prop} {g g' : Nat} {B : List Int} {t : TypeId} (h : Loc w fp g B t) (i : Nat) (v : Value) (hne : g ≠ g') : Loc (w.setCell ⟨g', i, none⟩ v) fp g B t :=
  ⟨by rw [heap_setCell_other w ⟨g', i, none⟩ g _ hne]; exact h.row, h.no⟩
theorem Loc.new {w : World} {fp : Nat → Prop} (hf : ∀ k, fp k → k < w.heap.size) (B : List Int) (t : TypeId) : Loc (w.alloc (.cells (u8s B) t)) fp w.heap.size B t := ⟨al_at rfl, fun h => by have := hf _ h; omega⟩
theorem cx_new {w w' : World} {n : Nat} (i : Is w' (w.heap.size + 1) (fun k => w.heap.size ≤ k) (dk0 n)) (b : Below w.heap.size w w') : ∃ fp, Cx w w' (w.heap.size + 1) fp (dk0 n) :=
  ⟨_, i.cut, b, fun k hk => hk.1, fun k hk => hk.2⟩
theorem new_cx (w : World) (n : Nat) (hn : 1 ≤ n ∧ n ≤ 4096) : Calls Tryz.prog 10 #[.int .i64 (n : Int)] w fun e w' => e = .returned (.tuple #[.pointer (some ⟨w.heap.size + 1, 0, none⟩), .int .i64 0]) ∧ ∃ fp, Cx w w' (w.heap.size + 1) fp (dk0 n) :=
  (new_any w n hn).mono fun e w' ⟨h1, h2, h3⟩ => ⟨h1, cx_new h2 h3⟩
theorem write_cx {w0 w : World} {D : Nat} {fp : Nat → Prop} {d : Dk} (C : Cx w0 w D fp d) (i : Nat) (a : Option Addr) (cap : Nat) (B : List Int) (hB : Bytes w a 192 B) (hap : ∀ ad, a = some ad → ¬ fp ad.block) (hd : d.down = false) (hi : i < d.n) (hst : d.st = true → d.left ≠ 0) (hl : 0 ≤ d.left ∧ d.left ≤ 9223372036854775807) (ho : d.ops.length < 1000000) (hu : d.uw.length < 1000000) :
    Calls Tryz.prog 97 #[.pointer (some ⟨D, 0, none⟩), .int .i64 (i : Int), .slice a 192 cap] w fun e w' => e = .returned (.int .i64 0) ∧ ∃ fp', Cx w0 w' D fp' (wrOk d i B) ∧ Fol w fp w' fp' :=
  (write_ok w D fp d C.is i a cap B hB hap hd hi hst hl ho hu).mono fun e w' ⟨h1, h2⟩ => ⟨h1, C.nx h2⟩
theorem flush_cx {w0 w : World} {D : Nat} {fp : Nat → Prop} {d : Dk} (C : Cx w0 w D fp d) (hd : d.down = false) (ho : d.ops.length < 1000000) (hu : d.uw.length < 1000000) :
    Calls Tryz.prog 20 #[.pointer (some ⟨D, 0, none⟩)] w fun e w' => e = .returned (.int .i64 0) ∧ ∃ fp', Cx w0 w' D fp' (flOk d) ∧ Fol w fp w' fp' :=
  (flush_ok w D fp d C.is hd ho hu).mono fun e w' ⟨h1, h2⟩ => ⟨h1, C.nx h2⟩
theorem crash_cx {w0 w : World} {D : Nat} {fp : Nat → Prop} {d : Dk} (C : Cx w0 w D fp d) (ka : Option Addr) (kl kc : Nat) (K : List Bool) (hK : Bools w ka kl K) (hKn : ∀ ad, ka = some ad → 0 < kl → ¬ fp ad.block) (hu : d.uw.length < 1000000) (hkl : kl ≤ maxLen) :
    Calls Tryz.prog 23 #[.pointer (some ⟨D, 0, none⟩), .slice ka kl kc] w fun e w' => e = .returned (.tuple #[]) ∧ ∃ fp', Cx w0 w' D fp' (crOk d K) ∧ Fol w fp w' fp' :=
  (crash_any w D fp d C.is ka kl kc K hK hKn hu hkl).mono fun e w' ⟨h1, h2⟩ => ⟨h1, C.nx h2⟩
theorem stop_cx {w0 w : World} {D : Nat} {fp : Nat → Prop} {d : Dk} (C : Cx w0 w D fp d) (i : Int) :
    Calls Tryz.prog 43 #[.pointer (some ⟨D, 0, none⟩), .int .i64 i] w fun e w' => e = .returned (.tuple #[]) ∧ ∃ fp', Cx w0 w' D fp' { d with st := decide (0 ≤ i), left := max i 0 } ∧ Fol w fp w' fp' :=
  (stop_any w D fp d C.is i).mono fun e w' ⟨h1, h2⟩ => ⟨h1, C.nx h2⟩
theorem read_cx {w0 w : World} {D : Nat} {fp : Nat → Prop} {d : Dk} (C : Cx w0 w D fp d) (i : Nat) (hd : d.down = false) (hi : i < d.n) (ho : d.ops.length < 1000000) (hu : d.uw.length < 1000000) :
    Calls Tryz.prog 39 #[.pointer (some ⟨D, 0, none⟩), .int .i64 (i : Int)] w fun e w' =>
      ∃ R fp', e = .returned (.tuple #[.slice (some ⟨R, 0, none⟩) 192 192, .int .i64 0]) ∧ Cx w0 w' D fp' (rdOk d i) ∧ Fol w fp w' fp' ∧ Loc w' fp' R (lat d i) 135 ∧ w.heap.size ≤ R ∧ (lat d i).length = 192 ∧ Byt (lat d i) := by
  have hlen : (lat d i).length = 192 ∧ Byt (lat d i) := by
    obtain ⟨P, uv, ov, h1, _⟩ := C.is
    exact length_lat h1 i
  refine (read_ok w D fp d C.is i hd hi (by omega) (by omega)).mono ?_
  rintro e w' ⟨R, fp', rfl, h1, h2, h3, h4, h5, h6⟩
  refine ⟨R, _, rfl, ⟨h1.cut, C.bel.trans (h2.below C.bel.size C.lo), fun k hk => ?_, fun k hk => hk.2⟩, ⟨h2, fun k hk hn hf => (h3 k hf.1).elim hn (fun h => by omega)⟩, ⟨h6, fun h => h4 h.1⟩, h5, hlen⟩
  rcases h3 k hk.1 with h7 | h7
  · exact C.lo k h7
  · exact Nat.le_trans C.bel.size h7
theorem size_cx {w0 w : World} {D : Nat} {fp : Nat → Prop} {d : Dk} (C : Cx w0 w D fp d) : Calls Tryz.prog 32 #[.pointer (some ⟨D, 0, none⟩)] w fun e w' => e = .returned (.int .i64 (d.n : Int)) ∧ w = w' := by
  obtain ⟨P, uv, ov, h1, _⟩ := C.is
  exact size_any w D P uv ov d h1
theorem pending_cx {w0 w : World} {D : Nat} {fp : Nat → Prop} {d : Dk} (C : Cx w0 w D fp d) : Calls Tryz.prog 28 #[.pointer (some ⟨D, 0, none⟩)] w fun e w' => e = .returned (.int .i64 (d.uw.length : Int)) ∧ w = w' := by
  obtain ⟨P, uv, ov, h1, _⟩ := C.is
  exact pending_any w D P uv ov d h1
theorem ops_cx {w0 w : World} {D : Nat} {fp : Nat → Prop} {d : Dk} (C : Cx w0 w D fp d) (hl : d.ops.length < 1000000) :
    Calls Tryz.prog 30 #[.pointer (some ⟨D, 0, none⟩)] w fun e w' => ∃ v', e = .returned v' ∧ w'.ownsRow 0 158 2 v' d.ops.length (ocs d.ops) ∧ Below w.heap.size w w' ∧ ∀ k, v'.ownBlock = some k → w.heap.size ≤ k := by
  obtain ⟨P, uv, ov, h1, _⟩ := C.is
  exact ops_any w D P uv ov d h1 hl
theorem bools_none (w : World) : Bools w none 0 [] := ⟨rfl, fun h => by omega⟩
theorem info5b : (Tryz.prog.info? 5).map (fun i => (i.zero, i.size, i.bytes)) = some (some (.int .u8 0), 1, 1) := info5
/-- 192 noughts, of the call's own. -/
theorem exec_make192 {o : Oper} {ρ : Operand → Value} {w : World} (l c : Operand) (ho : o.op = .makeSlice 62 l c) (hl : ρ l = .int .i64 192) (hc : ρ c = .int .i64 192) :
    (execOp ρ o).run Tryz.prog w = .ok (.value (.slice (some ⟨w.heap.size, 0, none⟩) 192 192)) (w.alloc (.cells (u8s z192) 5)) := by
  have := exec_make (P := Tryz.prog) (o := o) (ρ := ρ) (w := w) 62 5 l c ho (.int .u8 0) 1 1 Tryz.underlying62 info5 192 hl hc (by decide) (by decide)
  have e : madeCells (Value.int .u8 0).cells (192 * 1) = u8s z192 := made_bytes 192
  rw [e] at this
  exact this
end Go.Proofs.YtnicgmimhgbcfaaGreatDoor.Disk
namespace Go.Proofs.YtnicgmimhgbcfaaGreatDoor.Disk.Plain
end Go.Proofs.YtnicgmimhgbcfaaGreatDoor.Disk.Plain
namespace Go.Proofs.YtnicgmimhgbcfaaGreatDoor.Disk
set_option linter.unusedVariables false
open Go.RowKit Go.Proofs.YtnicgmimhgbcfaaGreatDoor.Plain Go.Proofs.YtnicgmimhgbcfaaGreatDoor.Disk.Plain

theorem lastOf_snoc (L : List (Nat × List Int)) (x : Nat × List Int) (j : Nat) : lastOf (L ++ [x]) j = if x.1 = j then some x.2 else lastOf L j := by
  unfold lastOf
  rw [List.reverse_append]
  simp only [List.reverse_cons, List.reverse_nil, List.nil_append, List.cons_append, List.find?_cons]
  by_cases h : x.1 = j
  · simp [h]
  · have : (x.1 == j) = false := by simpa using h
    simp [this, h]
theorem snoc_ind {α : Type} {p : List α → Prop} (L : List α) (nil : p []) (snoc : ∀ L x, p L → p (L ++ [x])) : p L := by
  have : ∀ R : List α, p R.reverse := fun R => by
    induction R with
    | nil => exact nil
    | cons x R ih => rw [List.reverse_cons]; exact snoc _ _ ih
  have h := this L.reverse
  rwa [List.reverse_reverse] at h
theorem lay_get (L : List (Nat × List Int)) (pl : Nat → List Int) (j : Nat) : lay L pl j = (lastOf L j).getD (pl j) := by
  refine snoc_ind (p := fun L => lay L pl j = (lastOf L j).getD (pl j)) L rfl (fun L x ih => ?_)
  show lay (L ++ [x]) pl j = (lastOf (L ++ [x]) j).getD (pl j)
  rw [lay_snoc, lastOf_snoc, upd]
  by_cases h : j = x.1
  · rw [if_pos h, if_pos h.symm]; rfl
  · rw [if_neg h, if_neg (Ne.symm h)]; exact ih
theorem lat_wr (d : Dk) (i j : Nat) (B : List Int) : lat (wrOk d i B) j = if i = j then B else lat d j := by
  unfold lat
  rw [show (wrOk d i B).uw = d.uw ++ [(i, B)] from rfl, lastOf_snoc]
  split <;> rfl
theorem lat_rd (d : Dk) (i : Int) (j : Nat) : lat (rdOk d i) j = lat d j := rfl
theorem lat_fl (d : Dk) (j : Nat) : lat (flOk d) j = lat d j := by
  have : lat (flOk d) j = lay d.uw d.pl j := rfl
  rw [this, lay_get]
  rfl
theorem lat_cr (d : Dk) (K : List Bool) (j : Nat) : lat (crOk d K) j = lay (kp d.uw K) d.pl j := rfl
theorem kp_nil (L : List (Nat × List Int)) : kp L [] = [] := by
  unfold kp
  rw [List.map_eq_nil_iff, List.filter_eq_nil_iff]
  intro x _
  simp
theorem getD_set0 (B : List Int) (z : Int) (h : 0 < B.length) : (B.set 0 z).getD 0 0 = z := by
  cases B with
  | nil => simp at h
  | cons b B => rfl
/-- The bytes that the example writes, and its disk behind each call. -/
def b7 : List Int := z192.set 0 7
theorem length_b7 : b7.length = 192 := by rw [b7, List.length_set, length_z192]
theorem byt_b7 : Byt b7 := byt_set _ _ _ byt_z192 (by omega)
theorem b7_at : b7.getD 0 0 = 7 := getD_set0 _ _ (by rw [length_z192]; omega)
def a1 : Dk := wrOk (dk0 2) 1 b7
def a2 : Dk := rdOk a1 1
def a3 : Dk := crOk a2 []
def a4 : Dk := rdOk a3 1
theorem lat_a1 : lat a1 1 = b7 := lat_wr _ _ _ _
theorem lat_a3 : lat a3 1 = z192 := by
  rw [a3, lat_cr, kp_nil]
  rfl
theorem row_cell0 {w : World} {fp : Nat → Prop} {g : Nat} {B : List Int} {t : TypeId} (h : Loc w fp g B t) (i : Nat) (hi : i < B.length) : w.cell? ⟨g, i, none⟩ = some (.int .u8 (B.getD i 0)) ∧ w.frozen? ⟨g, i, none⟩ = false :=
  ⟨row_cell w g i B t _ h.row hi, frozen_of_row w g i _ t h.row⟩
end Go.Proofs.YtnicgmimhgbcfaaGreatDoor.Disk
