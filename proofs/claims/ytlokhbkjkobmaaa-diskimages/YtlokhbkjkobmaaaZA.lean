/-
  What the Go method Crash of package disk does, for every disk and every row of what is kept.
-/
import Derived.Test.YtlokhbkjkobmaaaZ9
namespace Go.Proofs.Ytlokhbkjkobmaaa
set_option linter.unusedVariables false
open Go.RowKit Plain

/-- A row of truth values in memory. -/
def Bools (w : World) (a : Option Addr) (len : Nat) (K : List Bool) : Prop := K.length = len ∧ (0 < len → ∃ b off, a = some ⟨b, off, none⟩ ∧ b < w.heap.size ∧ ∀ i, i < len → w.cell? ⟨b, off + i, none⟩ = some (.bool (K.getD i false)))
theorem Bools.turned {fp : Nat → Prop} {w w' : World} {a : Option Addr} {len : Nat} {K : List Bool} (h : Bools w a len K) (t : Turned fp w w') (hn : ∀ ad, a = some ad → 0 < len → ¬ fp ad.block) : Bools w' a len K := by
  refine ⟨h.1, fun h0 => ?_⟩
  obtain ⟨b, off, rfl, hb, hc⟩ := h.2 h0
  exact ⟨b, off, rfl, Nat.lt_of_lt_of_le hb t.size, fun i hi => t.cell (hc i hi) (hn ⟨b, off, none⟩ rfl h0)⟩
/-- The writes that are kept. -/
def kp (L : List (Nat × List Int)) (K : List Bool) : List (Nat × List Int) := (L.zipIdx.filter (fun x => K.getD x.2 false)).map Prod.fst
theorem kp_succ (L : List (Nat × List Int)) (K : List Bool) (k : Nat) (h : k < L.length) : kp (L.take (k + 1)) K = kp (L.take k) K ++ (if K.getD k false then [L[k]] else []) := by
  unfold kp
  rw [← List.take_append_getElem h, List.zipIdx_append, List.filter_append, List.map_append]
  congr 1
  have : (L.take k).length = k := by simp; omega
  simp only [this, Nat.zero_add, List.zipIdx_cons, List.zipIdx_nil, List.filter_cons, List.filter_nil]
  split <;> simp
def crPl (d : Dk) (K : List Bool) (k : Nat) : Dk := { d with pl := lay (kp (d.uw.take k) K) d.pl }
theorem crPl_zero (d : Dk) (K : List Bool) : crPl d K 0 = d := rfl
theorem crPl_no (d : Dk) (K : List Bool) (k : Nat) (h : k < d.uw.length) (hk : K.getD k false = false) : crPl d K (k + 1) = crPl d K k := by
  simp only [crPl]
  rw [kp_succ _ _ _ h, hk]
  simp
theorem crPl_yes (d : Dk) (K : List Bool) (k : Nat) (h : k < d.uw.length) (hk : K.getD k false = true) : ({ crPl d K k with pl := upd (crPl d K k).pl d.uw[k].1 d.uw[k].2 } : Dk) = crPl d K (k + 1) := by
  simp only [crPl]
  rw [kp_succ _ _ _ h, if_pos hk, lay_snoc]
theorem At.set3a {w : World} {D P : Nat} {uv ov : Value} {d : Dk} (h : At w D P uv ov d) (b : Bool) : At (w.setCell ⟨D, 3, none⟩ (.bool b)) D P uv ov { d with down := b } ∧ Turned (foot D P uv ov) w (w.setCell ⟨D, 3, none⟩ (.bool b)) :=
  ⟨h.put b d.st d.left (fun k hk => by rw [heap_setCell_other _ ⟨D, 3, none⟩ k _ hk]) (heap_setCell_same w D 3 _ _ _ h.hd), turned_set (Turned.refl _ _) (.inl rfl) _⟩
def crOk (d : Dk) (K : List Bool) : Dk := { d with pl := lay (kp d.uw K) d.pl, uw := [], down := false, st := false, left := 0 }
set_option maxRecDepth 20000 in
set_option maxHeartbeats 4000000 in
theorem crash_any (w : World) (D : Nat) (fp : Nat → Prop) (d : Dk) (h : Is w D fp d) (ka : Option Addr) (kl kc : Nat) (K : List Bool) (hK : Bools w ka kl K) (hKn : ∀ ad, ka = some ad → 0 < kl → ¬ fp ad.block) (hu : d.uw.length < 1000000) (hkl : kl ≤ maxLen) :
    Calls Try.prog 20 #[.pointer (some ⟨D, 0, none⟩), .slice ka kl kc] w fun e w' => e = .returned (.tuple #[]) ∧ Nx D fp w w' (crOk d K) := by
  obtain ⟨P, uv, ov, h1, h2⟩ := h
  obtain ⟨a, cap, rfl⟩ := own_form2 h1.hu
  obtain ⟨c0, c1, -, -, -, -, fz⟩ := h1.cells
  have HF : Box (∀ k, foot D P (.slice a d.uw.length cap) ov k → fp k) := ⟨h2⟩
  have HB : Box (∀ wx, Turned (foot D P (.slice a d.uw.length cap) ov) w wx → Bools wx ka kl K) := ⟨fun wx ht => hK.turned ht (fun ad e h0 hf => hKn ad e h0 (h2 _ hf))⟩
  have HA : Box (At w D P (.slice a d.uw.length cap) ov (crPl d K 0) ∧ Turned (foot D P (.slice a d.uw.length cap) ov) w w) := ⟨h1, Turned.refl _ _⟩
  have hu2 : d.uw.length < 9223372036854775807 := by omega
  have hkl2 : kl < 9223372036854775808 := by unfold maxLen at hkl; omega
  clear h1 h2 hu fz hK hKn hkl
  go_enter Try.func20, Try.ntmps20
  go_wp2
  go_loopw [13] (fun i wr => ∃ k : Nat, k ≤ d.uw.length ∧ i = .int .i64 k ∧ Box (At wr D P (.slice a d.uw.length cap) ov (crPl d K k) ∧ Turned (foot D P (.slice a d.uw.length cap) ov) w wr)) (fun i _ => d.uw.length - (intOf i).toNat)
  case atStart => exact ⟨0, Nat.zero_le _, rfl, HA⟩
  case round =>
    clear HA c0 c1
    obtain ⟨k, hk, rfl, HK⟩ := hrel
    by_cases hlt : k < d.uw.length
    · have hgood := HK.out.1.huw d.uw[k] (List.getElem_mem hlt)
      obtain ⟨g, rfl, hg, hr⟩ := At.ways (d := crPl d K k) HK.out.1 (show 0 < d.uw.length by omega)
      have hrk : Box (wr.rangeAt g (k * 193) (wc d.uw[k])) := ⟨hr k hlt⟩
      have HE := crPl_yes d K k hlt
      have HE0 : Box (K.getD k false = false → crPl d K (k + 1) = crPl d K k) := ⟨crPl_no d K k hlt⟩
      obtain ⟨x, hx⟩ : ∃ x, d.uw[k] = x := ⟨_, rfl⟩
      rw [hx] at hgood hrk HE
      obtain ⟨p, b⟩ := x
      replace HE : Box (K.getD k false = true → ({ crPl d K k with pl := upd (crPl d K k).pl p b } : Dk) = crPl d K (k + 1)) := ⟨HE⟩
      have HI : Box ((Try.prog.info? 84).map (·.size) = some (wc (p, b)).length) := ⟨by rw [length_wc _ hgood.2.1]; exact info84⟩
      have HI2 : Box ((Try.prog.info? 84).map (·.size) = some (wc (p, b)).toArray.size) := ⟨by rw [List.size_toArray, length_wc _ hgood.2.1]; exact info84⟩
      have hz : (wc (0, z192)).toArray.size = (wc (p, b)).length := by rw [length_wc _ hgood.2.1]; exact length_wc _ length_z192
      have HN : Box _ := ⟨laid_new wr (wc (0, z192)).toArray 84 (wc (p, b)) hz⟩
      have HT : Box ((wr.alloc (.cells (wc (0, z192)).toArray 84)).there wr.heap.size 0 (wc (p, b)).toArray.size) := ⟨there_row (al_at rfl) (by rw [hz]; simp)⟩
      have HLy : Box (Lay ((wr.alloc (.cells (wc (0, z192)).toArray 84)).setCells wr.heap.size 0 (wc (p, b))) D P wr.heap.size d.n p b) := ⟨HK.out.1.layAt HN.out.1 p b hgood.1 hgood.2.1 HN.out.2.2⟩
      have HLd : Box _ := ⟨HK.out.1.laid HN.out.1.drew p b hgood.1 hgood.2⟩
      have HPn : Box (p < d.n) := ⟨hgood.1⟩
      have HTn : Box (Turned (foot D P (.slice (some ⟨g, 0, none⟩) d.uw.length cap) ov) w wr) := ⟨HK.out.2⟩
      have HKc : Box (Bools ((wr.alloc (.cells (wc (0, z192)).toArray 84)).setCells wr.heap.size 0 (wc (p, b))) ka kl K) := ⟨HB.out _ (HTn.out.trans (Turned.of_below (fp := fun _ => False) HN.out.1) (fun _ h => h.elim))⟩
      have HAt : Box (At wr D P (.slice (some ⟨g, 0, none⟩) d.uw.length cap) ov (crPl d K k)) := ⟨HK.out.1⟩
      clear HK hgood hr hg hx hz
      by_cases hkk : k < kl
      · obtain ⟨kb, ko, rfl, hkb, hkc⟩ := HKc.out.2 (by omega)
        have ck := hkc k hkk
        clear hkb hkc
        cases hKk : K.getD k false
        case false =>
          rw [hKk] at ck
          go_wp2_with (first
            | (refine wpList_load_mid rfl 84 _ rfl g (k * 193) rfl (wc (p, b)) _ hrk.out Try.underlying84 rfl HI.out ?_)
            | (refine wpList_run rfl _ _ (exec_alloc 84 rfl _ zero84) ?_)
            | (refine wpList_store_mid rfl 84 _ _ rfl wr.heap.size 0 (wc (p, b)).toArray rfl rfl HT.out HI2.out (all_oneCell_toArray (one_wc _)) ?_; generalize (wr.alloc (.cells (wc (0, z192)).toArray 84)).setCells wr.heap.size 0 (wc (p, b)).toArray.toList = wx at HN HLy HLd HKc ck ⊢))
          exact ⟨⟨k + 1, by omega, by simp, ⟨by rw [HE0.out hKk]; exact HAt.out.below HN.out.1, HTn.out.trans (Turned.of_below (fp := fun _ => False) HN.out.1) (fun _ h => h.elim)⟩⟩, by simp [intOf]; omega⟩
        case true =>
          rw [hKk] at ck
          go_upto_region 5 with (first
            | (refine wpList_load_mid rfl 84 _ rfl g (k * 193) rfl (wc (p, b)) _ hrk.out Try.underlying84 rfl HI.out ?_)
            | (refine wpList_run rfl _ _ (exec_alloc 84 rfl _ zero84) ?_)
            | (refine wpList_store_mid rfl 84 _ _ rfl wr.heap.size 0 (wc (p, b)).toArray rfl rfl HT.out HI2.out (all_oneCell_toArray (one_wc _)) ?_; generalize (wr.alloc (.cells (wc (0, z192)).toArray 84)).setCells wr.heap.size 0 (wc (p, b)).toArray.toList = wx at HN HLy HLd HKc ck ⊢))
          rename_i KK ax
          try simp only [Act.put, List.setIfInBounds_toArray, List.set_cons_zero, List.set_cons_succ, List.getElem_toArray, List.getElem_cons_zero, List.getElem_cons_succ]
          refine begin_but (P) (by kernel_rfl) (fun wd hwd => ?_)
          have GF : Box (Lay wd D P wr.heap.size d.n p b) := ⟨HLy.out.drew hwd⟩
          have hpn : p < d.n := HPn.out
          refine take_but (i := 0) (v := ?_) rfl (by kernel_rfl) (by kernel_rfl) (by kernel_rfl) (fun _ _ _ h => h) (by rfl) ?_ ?_
          rotate_left
          · intro w' hB; clear hB; go_simp <;> with_reducible rfl
          try simp only [Act.put, List.setIfInBounds_toArray, List.set_cons_zero, List.set_cons_succ, List.getElem_toArray, List.getElem_cons_zero]
          refine take_but (i := 1) (v := ?_) rfl (by kernel_rfl) (by kernel_rfl) (by kernel_rfl) (fun _ _ _ h => h) (by rfl) ?_ ?_
          rotate_left
          · intro w' hB; clear hB; go_simp <;> with_reducible rfl
          try simp only [Act.put, List.setIfInBounds_toArray, List.set_cons_zero, List.set_cons_succ, List.getElem_toArray, List.getElem_cons_zero, List.getElem_cons_succ]
          refine take_but (i := 2) (v := ?_) rfl (by kernel_rfl) (by kernel_rfl) (by kernel_rfl) (fun _ _ _ h => h) (by rfl) ?_ ?_
          rotate_left
          · intro w' hB; clear hB; go_simp <;> with_reducible rfl
          try simp only [Act.put, List.setIfInBounds_toArray, List.set_cons_zero, List.set_cons_succ, List.getElem_toArray, List.getElem_cons_zero, List.getElem_cons_succ]
          refine take_but (i := 3) (v := .slice (some ⟨P, 0, none⟩) d.n d.n) rfl (by kernel_rfl) (by kernel_rfl) (by kernel_rfl) (fun _ _ _ h => h) (by rfl) (fun w' hB => exec_load1 64 _ _ rfl Try.underlying64 rfl _ rfl _ (but_cell hB GF.out.c0 GF.out.n0)) ?_
          try simp only [Act.put, List.setIfInBounds_toArray, List.set_cons_zero, List.set_cons_succ, List.getElem_toArray, List.getElem_cons_zero, List.getElem_cons_succ]
          refine take_but (i := 4) (v := ?_) rfl (by kernel_rfl) (by kernel_rfl) (by kernel_rfl) (fun _ _ _ h => h) (by rfl) ?_ ?_
          rotate_left
          · intro w' hB; clear hB; go_simp <;> with_reducible rfl
          try simp only [Act.put, List.setIfInBounds_toArray, List.set_cons_zero, List.set_cons_succ, List.getElem_toArray, List.getElem_cons_zero, List.getElem_cons_succ]
          refine take_but (i := 5) (v := .int .i64 (p : Int)) rfl (by kernel_rfl) (by kernel_rfl) (by kernel_rfl) (fun _ _ _ h => h) (by rfl) (fun w' hB => exec_load1 3 _ _ rfl Try.underlying3 rfl _ rfl _ (but_cell hB GF.out.cx GF.out.nx)) ?_
          try simp only [Act.put, List.setIfInBounds_toArray, List.set_cons_zero, List.set_cons_succ, List.getElem_toArray, List.getElem_cons_zero, List.getElem_cons_succ]
          refine take_but (i := 6) (v := ?_) rfl (by kernel_rfl) (by kernel_rfl) (by kernel_rfl) (fun _ _ _ h => h) (by rfl) ?_ ?_
          rotate_left
          · intro w' hB; clear hB; go_simp <;> with_reducible rfl
          try simp only [Act.put, List.setIfInBounds_toArray, List.set_cons_zero, List.set_cons_succ, List.getElem_toArray, List.getElem_cons_zero, List.getElem_cons_succ]
          refine take_but (i := 7) (v := .agg (u8s b)) rfl (by kernel_rfl) (by kernel_rfl) (by kernel_rfl) (fun _ _ _ h => h) (by rfl) (fun w' hB => exec_load_mid 79 _ _ rfl Try.underlying79 rfl wr.heap.size 1 rfl (b.map (Value.int .u8)) GF.out.iz (but_range hB GF.out.rx GF.out.nx)) ?_
          try simp only [Act.put, List.setIfInBounds_toArray, List.set_cons_zero, List.set_cons_succ, List.getElem_toArray, List.getElem_cons_zero, List.getElem_cons_succ]
          refine take_but (i := 8) (v := ?_) rfl (by kernel_rfl) (by kernel_rfl) (by kernel_rfl) (fun _ _ _ h => h) (by rfl) ?_ ?_
          rotate_left
          · intro w' hB; clear hB; go_simp <;> with_reducible rfl
          try simp only [Act.put, List.setIfInBounds_toArray, List.set_cons_zero, List.set_cons_succ, List.getElem_toArray, List.getElem_cons_zero, List.getElem_cons_succ]
          refine last_but (i := 9) rfl (by kernel_rfl) (by rfl) (by kernel_rfl) 79 _ _ rfl (p * 192) (u8s b) rfl rfl GF.out.th GF.out.iy (all_u8s _) ?_
          show KK _ _
          refine ax _ _ ?_
          try simp only [Act.put, List.getElem_toArray, List.getElem_cons_zero, List.getElem_cons_succ]
          have HL2 : Box _ := ⟨HLd.out⟩
          rw [HE.out hKk] at HL2
          rw [hwd]
          generalize (wx.drew.setCells P (p * 192) (u8s b).toList) = wy at HL2 ⊢
          clear ax HLd HE HLy GF HT HN HI HI2 hrk hwd ck HKc HB
          go_wp2
          go_roundw
          case rel => exact ⟨k + 1, by omega, by simp, ⟨HL2.out.1, HTn.out.trans HL2.out.2 (fun _ hk => .inl hk)⟩⟩
          case measure => simp [intOf]; omega
      · have hKk : K.getD k false = false := by
          have := HKc.out.1
          simp [List.getD, List.getElem?_eq_none (show K.length ≤ k by omega)]
        go_wp2_with (first
          | (refine wpList_load_mid rfl 84 _ rfl g (k * 193) rfl (wc (p, b)) _ hrk.out Try.underlying84 rfl HI.out ?_)
          | (refine wpList_run rfl _ _ (exec_alloc 84 rfl _ zero84) ?_)
          | (refine wpList_store_mid rfl 84 _ _ rfl wr.heap.size 0 (wc (p, b)).toArray rfl rfl HT.out HI2.out (all_oneCell_toArray (one_wc _)) ?_; generalize (wr.alloc (.cells (wc (0, z192)).toArray 84)).setCells wr.heap.size 0 (wc (p, b)).toArray.toList = wx at HN HLy HLd HKc ⊢))
        exact ⟨⟨k + 1, by omega, by simp, ⟨by rw [HE0.out hKk]; exact HAt.out.below HN.out.1, HTn.out.trans (Turned.of_below (fp := fun _ => False) HN.out.1) (fun _ h => h.elim)⟩⟩, by simp [intOf]; omega⟩
    · obtain rfl : k = d.uw.length := by omega
      have HK2 : Box (At wr D P (.slice a d.uw.length cap) ov (crPl d K d.uw.length)) := ⟨HK.out.1⟩
      obtain ⟨-, c1, -, c3, -, -, fz⟩ := HK2.out.cells
      have f1 := fz 1
      have f3 := fz 3
      have HW : Box _ := ⟨HK2.out.noway⟩
      have HW3 : Box _ := ⟨HW.out.1.set3a false⟩
      clear fz
      go_wp2_with (go_at_call 23; refine (stop_any _ D _ _ ⟨P, _, ov, HW3.out.1, fun _ hk => hk⟩ (-1)).mono ?_; rintro e w4 ⟨rfl, hn4⟩; have HN4 : Box _ := ⟨hn4⟩; clear hn4)
      go_end0
      refine ⟨rfl, ?_⟩
      have hfl : ({ crPl d K d.uw.length with uw := [], down := false, st := decide (0 ≤ (-1 : Int)), left := max (-1) 0 } : Dk) = crOk d K := by simp [crOk, crPl]; omega
      rw [← hfl]
      obtain ⟨v1, v2, v3⟩ := HW.out
      have t1 := HK.out.2.trans v2 (fun _ hk => .inl hk)
      have t2 := t1.trans HW3.out.2 (fun k hk => .inl (v3 k hk))
      refine Nx.trans (fp' := foot D P (.slice none 0 0) ov) (d' := d) ⟨t2.os, t2.tape, t2.output, t2.size, fun k hk hn => t2.block k hk (fun hf => hn (HF.out k hf))⟩ (fun k hk => .inl (HF.out k (v3 k hk))) HN4.out
set_option maxRecDepth 20000 in
set_option maxHeartbeats 2000000 in
theorem crash_none (w : World) (ka : Option Addr) (kl kc : Nat) : Calls Try.prog 20 #[.pointer none, .slice ka kl kc] w fun e w' => e = .returned (.tuple #[]) ∧ w = w' := by
  go_enter Try.func20, Try.ntmps20
  go_wp2
  refine bodyPost_ret (results_none rfl _ _ _) rfl ?_
  exact ⟨rfl, rfl⟩
end Go.Proofs.Ytlokhbkjkobmaaa
