/-
  The walk of BuffersHold: a block that is held stays, whatever is put in; there are never more than may be; one that is none keeps nothing.
-/
import Derived.Test.YthjfobcfdpogeaaBO
namespace Go.Proofs.Ythjfobcfdpogeaa
set_option linter.unusedVariables false
open Go.RowKit Plain

theorem IsRow.at64 {w : World} {a : Option Addr} {len cap : Nat} {zs : List Int} (h : IsRow .u64 w a len cap zs) (hl : 0 < len) : ∃ gb off, a = some ⟨gb, off, none⟩ ∧ gb < w.heap.size ∧ ∀ i, i < len → w.cell? ⟨gb, off + i, none⟩ = some (.int .u64 ((zs.take len).getD i 0)) ∧ U64 ((zs.take len).getD i 0) := by
  obtain ⟨h1, h2, h3⟩ := h.cells
  obtain ⟨b, off, e, hb, hc⟩ := h3 hl
  refine ⟨b, off, e, hb, fun i hi => ⟨hc i hi, ?_⟩⟩
  have hi' : i < (zs.take len).length := by omega
  have := bounds_u64 (h2 _ (List.getElem_mem hi'))
  simp only [List.getD, List.getElem?_eq_getElem hi', Option.getD_some]
  exact this
set_option maxRecDepth 20000 in
set_option maxHeartbeats 8000000 in
theorem buffersHold_walk (n : Int) (a : Option Addr) (len cap : Nat) (zs : List Int) (v : Int) (w : World) (hn : (Lit.int .u8 n).wf = true) (hA : IsRow .u64 w a len cap zs) (hv : (Lit.int .u8 v).wf = true) :
    Calls Try.prog 4 #[.int .u8 n, .slice a len cap, .int .u8 v] w fun e w' => e = .returned (.bool true) ∧ Below w.heap.size w w' := by
  have bn := bounds_u8 hn
  have bv := bounds_u8 hv
  have hlm := hA.len
  have hlm2 : len ≤ 9223372036854775807 := hlm
  have AW : Box _ := ⟨awake_any w⟩
  have HR : Box (IsRow .u64 w a len cap zs) := ⟨hA⟩
  clear hn hv hA hlm
  go_enter Try.func4, Try.ntmps4
  go_upto_region 9 with (first
    | (go_at_call 8; refine AW.out.mono ?_; rintro e w1 ⟨rfl, hb1⟩; have B1 : Box _ := ⟨hb1⟩; have G1 : Box _ := ⟨get_none w1 1⟩; clear hb1 AW)
    | (go_at_call 13; refine G1.out.mono ?_; rintro e w2 ⟨rfl, hb2⟩; have B2 : Box _ := ⟨below_to B1.out hb2⟩; have FU : Box _ := ⟨full_nil w2⟩; have C1 : Box _ := ⟨clear_none w2⟩; clear hb2 G1 B1)
    | (go_at_call 20; refine C1.out.mono ?_; rintro e w2' ⟨rfl, rfl⟩; clear C1)
    | (go_at_call 10; refine FU.out.mono ?_; rintro e w3 ⟨⟨S, rfl, _, _⟩, hb3⟩; have B3 : Box _ := ⟨below_to B2.out hb3⟩; have P1 : Box _ := ⟨put_none w3 1 (.slice (some ⟨S, 0, none⟩) 160 160)⟩; have Q1 : Box _ := ⟨pin_none w3 1⟩; clear hb3 FU B2)
    | (go_at_call 11; refine P1.out.mono ?_; rintro e w3' ⟨rfl, rfl⟩; clear P1)
    | (go_at_call 15; refine Q1.out.mono ?_; rintro e w4 ⟨rfl, hb4⟩; have B4 : Box _ := ⟨below_to B3.out hb4⟩; have U1 : Box _ := ⟨unpin_none w4 1⟩; clear hb4 Q1 B3)
    | (go_at_call 17; refine U1.out.mono ?_; rintro e w5 ⟨rfl, hb5⟩; have B5 : Box _ := ⟨below_to B4.out hb5⟩; have D1 : Box _ := ⟨drop_none w5 1⟩; clear hb5 U1 B4)
    | (go_at_call 18; refine D1.out.mono ?_; rintro e w6 ⟨rfl, hb6⟩; have B6 : Box _ := ⟨below_to B5.out hb6⟩; have K1 : Box _ := ⟨blocks_none w6⟩; clear hb6 D1 B5)
    | (go_at_call 21; refine K1.out.mono ?_; rintro e w6' ⟨rfl, rfl⟩; clear K1))
  go_upto_region 10 with fail
  obtain ⟨K, hK⟩ : ∃ K : Nat, n % 8 + 2 = (K : Int) := ⟨(n % 8 + 2).toNat, by omega⟩
  have hK2 : 2 ≤ K := by omega
  have hK3 : K < 1000 := by omega
  rw [hK]
  clear hK bn
  have N1 : Box _ := ⟨new_st w w6 B6.out K⟩
  go_upto_region 11 with (go_at_call 9; refine N1.out.mono ?_; rintro e w7 ⟨C, rfl, hs7, hb7⟩; have S7 : Box _ := ⟨hs7⟩; clear hs7 hb7 N1)
  have FU : Box (∀ x, x = w7.alloc (.cells #[.int .u8 v] 5) → _) := ⟨fun x hx => full_one x w7.heap.size v bv (by rw [hx]; exact al_at rfl)⟩
  go_upto_region 15 with (first
    | (go_at_call 10; refine (FU.out _ rfl).mono ?_; rintro e w8 ⟨⟨S, rfl, _, hf8⟩, hb8⟩; have P1 : Box _ := ⟨put_new' w w8 C K [] [] ((S7.out.below ((Below.refl _ _).alloc (Nat.le_refl _) _)).below hb8) 7 (u64_of (by omega)) (no_nil _) (.fit [] (by show ((0 : Nat) : Int) < (K : Int); omega)) S 160 (o160 v) hf8 (length_o160 _) (by simp)⟩; clear hf8 hb8 FU S7)
    | (go_at_call 11; refine P1.out.mono ?_; rintro e w9 ⟨rfl, ⟨y1, l1, hs9⟩, f9⟩; have Q1 : Box _ := ⟨pin_ok' w w9 C K [y1] hs9 7 0 (by simp) (fs_zero _ _ _ l1.b) (by show y1.h < _; rw [l1.h]; decide)⟩; have HY : Box (y1.b = 7 ∧ y1.h = 0 ∧ y1.bs = o160 v) := ⟨l1.b, l1.h, l1.bs⟩; clear hs9 f9 l1 P1)
    | (go_at_call 15; refine Q1.out.mono ?_; rintro e w10 ⟨rfl, hs10, f10⟩; have D1 : Box _ := ⟨drop_held' w w10 C K [{ y1 with h := y1.h + 1 }] hs10 7 0 (by simp) (fs_zero _ _ _ HY.out.1) (by show y1.h + 1 ≠ 0; rw [HY.out.2.1]; decide)⟩; clear hs10 f10 Q1)
    | (go_at_call 18; refine D1.out.mono ?_; rintro e w11 ⟨rfl, hs11, f11⟩; have H11 : Box (∃ L, St w w11 C K L ∧ Hd K v L) := ⟨_, hs11, ⟨by simp; omega, by simp, fun x hx _ => by simp at hx; subst hx; exact ⟨by show y1.h + 1 = 1; rw [HY.out.2.1]; rfl, HY.out.2.2⟩, fun x hx h7 => by simp at hx; subst hx; exact absurd HY.out.1 h7, ⟨{ y1 with h := y1.h + 1 }, List.mem_singleton.2 rfl, HY.out.1⟩⟩⟩; clear hs11 f11 D1))
  clear HY B6
  go_wp2
  go_loopw [15] (fun j wr => ∃ q : Nat, q ≤ len ∧ q ≤ 40 ∧ j = .int .i64 q ∧ Box (∃ L, St w wr C K L ∧ Hd K v L)) (fun j _ => 40 - (intOf j).toNat)
  case atStart => exact ⟨0, Nat.zero_le _, Nat.zero_le _, rfl, H11⟩
  case round =>
    clear H11
    obtain ⟨q, hq, hq40, rfl, HI⟩ := hrel
    by_cases hgo : q < len ∧ q < 40
    · obtain ⟨hlt, hlt40⟩ := hgo
      obtain ⟨L, hs, hp⟩ := HI.out
      have HL : Box (St w wr C K L ∧ Hd K v L) := ⟨hs, hp⟩
      obtain ⟨gb, off, rfl, hgb, hcs⟩ := HR.out.at64 (by omega)
      obtain ⟨hc, hU⟩ := hcs q hlt
      generalize (zs.take len).getD q 0 = bq at hc hU
      have HU : Box (U64 bq) := ⟨hU⟩
      have HA : Box (∀ x, Below w.heap.size w x → x.cell? ⟨gb, off + q, none⟩ = some (.int .u64 bq)) := ⟨fun x hx => (hx.cell (p := ⟨gb, off + q, none⟩) hgb).trans hc⟩
      have d1 := HA.out wr hs.bl
      clear hs hp hcs hc hU HI
      by_cases hb7 : bq = 7
      · have hz : (bq == 7) = true := by simp [hb7]
        clear hb7
        go_wp2
        exact ⟨⟨q + 1, by omega, by omega, by simp, ⟨L, HL.out⟩⟩, by simp [intOf]; omega⟩
      · have hz : (bq == 7) = false := by simpa using hb7
        go_upto_region 19 with fail
        clear d1
        refine begin_keep (S := fun x => x.cell? ⟨gb, off + q, none⟩ = some (.int .u64 bq)) (by kernel_rfl) (fun wd hwd => ?_)
        have hsd : St w wd C K L := by rw [hwd]; exact HL.out.1.below ((Below.refl _ _).drew)
        clear hwd
        have hS := HA.out wd hsd.bl
        refine take_s (i := 0) (v := ?_) rfl (by kernel_rfl) (by kernel_rfl) (by kernel_rfl) (fun _ _ _ h => h) (by rfl) ?_ hS ?_
        rotate_left
        · intro w' hLat; clear hLat; go_simp <;> with_reducible rfl
        try simp only [Act.put, List.setIfInBounds_toArray, List.set_cons_zero, List.set_cons_succ, List.getElem_toArray, List.getElem_cons_zero]
        refine take_s (i := 1) (v := ?_) rfl (by kernel_rfl) (by kernel_rfl) (by kernel_rfl) (fun _ _ _ h => h) (by rfl) ?_ hS ?_
        rotate_left
        · intro w' hLat; clear hLat; go_simp <;> with_reducible rfl
        try simp only [Act.put, List.setIfInBounds_toArray, List.set_cons_zero, List.set_cons_succ, List.getElem_toArray, List.getElem_cons_zero, List.getElem_cons_succ]
        refine take_s (i := 2) (v := ?_) rfl (by kernel_rfl) (by kernel_rfl) (by kernel_rfl) (fun _ _ _ h => h) (by rfl) ?_ hS ?_
        rotate_left
        · intro w' hLat; clear hLat; go_simp <;> with_reducible rfl
        try simp only [Act.put, List.setIfInBounds_toArray, List.set_cons_zero, List.set_cons_succ, List.getElem_toArray, List.getElem_cons_zero, List.getElem_cons_succ]
        refine take_s (i := 3) (v := .pointer (some ⟨gb, off + q, none⟩)) rfl (by kernel_rfl) (by kernel_rfl) (by kernel_rfl) (fun _ _ _ h => h) (by rfl) (fun w' hLat => exec_idx64 _ _ rfl gb off len cap q rfl rfl hlt) hS ?_
        try simp only [Act.put, List.setIfInBounds_toArray, List.set_cons_zero, List.set_cons_succ, List.getElem_toArray, List.getElem_cons_zero, List.getElem_cons_succ]
        refine take_s (i := 4) (v := .int .u64 bq) rfl (by kernel_rfl) (by kernel_rfl) (by kernel_rfl) (fun _ _ _ h => h) (by rfl) (fun w' hLat => exec_load1 29 _ _ rfl Try.underlying29 rfl _ rfl _ hLat) hS ?_
        try simp only [Act.put, List.setIfInBounds_toArray, List.set_cons_zero, List.set_cons_succ, List.getElem_toArray, List.getElem_cons_zero, List.getElem_cons_succ]
        refine one_keep (i := 5) (by kernel_rfl) ?_
        refine keep_step rfl (by rfl) ?_
        go_simp
        refine Calls.mono (full_nil wd) ?_
        rintro e x1 ⟨⟨S1, rfl, _, hf1⟩, hb1⟩
        have hs1 := hsd.below hb1
        have hS := HA.out x1 hs1.bl
        refine ⟨hS, ?_⟩
        try simp only [Act.put, List.setIfInBounds_toArray, List.set_cons_zero, List.set_cons_succ, List.getElem_toArray, List.getElem_cons_zero, List.getElem_cons_succ]
        refine one_keep (i := 6) (by kernel_rfl) ?_
        refine keep_step rfl (by rfl) ?_
        go_simp
        refine Calls.mono (put_hd w x1 C K L v hs1 HL.out.2 hK2 hK3 bq HU.out hb7 S1 160 z160 hf1 length_z160) ?_
        rintro e x2 ⟨rfl, y, L2, hyb, hs2, hh2⟩
        have hS := HA.out x2 hs2.bl
        obtain ⟨N1, hN1e⟩ : ∃ N1, (y :: L2).length = N1 := ⟨_, rfl⟩
        have hN1 : ¬ (K : Int) < (N1 : Int) := by have := hh2.len; omega
        refine ⟨hS, ?_⟩
        try simp only [Act.put, List.setIfInBounds_toArray, List.set_cons_zero, List.set_cons_succ, List.getElem_toArray, List.getElem_cons_zero, List.getElem_cons_succ]
        refine take_s (i := 7) (v := ?_) rfl (by kernel_rfl) (by kernel_rfl) (by kernel_rfl) (fun _ _ _ h => h) (by rfl) ?_ hS ?_
        rotate_left
        · intro w' hLat; clear hLat; go_simp <;> with_reducible rfl
        try simp only [Act.put, List.setIfInBounds_toArray, List.set_cons_zero, List.set_cons_succ, List.getElem_toArray, List.getElem_cons_zero, List.getElem_cons_succ]
        refine take_s (i := 8) (v := ?_) rfl (by kernel_rfl) (by kernel_rfl) (by kernel_rfl) (fun _ _ _ h => h) (by rfl) ?_ hS ?_
        rotate_left
        · intro w' hLat; clear hLat; go_simp <;> with_reducible rfl
        try simp only [Act.put, List.setIfInBounds_toArray, List.set_cons_zero, List.set_cons_succ, List.getElem_toArray, List.getElem_cons_zero, List.getElem_cons_succ]
        refine take_s (i := 9) (v := ?_) rfl (by kernel_rfl) (by kernel_rfl) (by kernel_rfl) (fun _ _ _ h => h) (by rfl) ?_ hS ?_
        rotate_left
        · intro w' hLat; clear hLat; go_simp <;> with_reducible rfl
        try simp only [Act.put, List.setIfInBounds_toArray, List.set_cons_zero, List.set_cons_succ, List.getElem_toArray, List.getElem_cons_zero, List.getElem_cons_succ]
        refine take_s (i := 12) (v := ?_) rfl (by kernel_rfl) (by kernel_rfl) (by kernel_rfl) (fun _ _ _ h => h) (by rfl) ?_ hS ?_
        rotate_left
        · intro w' hLat; clear hLat; go_simp <;> with_reducible rfl
        try simp only [Act.put, List.setIfInBounds_toArray, List.set_cons_zero, List.set_cons_succ, List.getElem_toArray, List.getElem_cons_zero, List.getElem_cons_succ]
        refine one_keep (i := 10) (by kernel_rfl) ?_
        refine keep_step rfl (by rfl) ?_
        go_simp
        refine Calls.mono (blocks_st w x2 C K (y :: L2) hs2) ?_
        rintro e x3 ⟨⟨S3, rfl, _⟩, hs3, _⟩
        have hS := HA.out x3 hs3.bl
        rw [hN1e]
        refine ⟨hS, ?_⟩
        try simp only [Act.put, List.setIfInBounds_toArray, List.set_cons_zero, List.set_cons_succ, List.getElem_toArray, List.getElem_cons_zero, List.getElem_cons_succ]
        refine take_s (i := 11) (v := ?_) rfl (by kernel_rfl) (by kernel_rfl) (by kernel_rfl) (fun _ _ _ h => h) (by rfl) ?_ hS ?_
        rotate_left
        · intro w' hLat; clear hLat; go_simp <;> with_reducible rfl
        try simp only [Act.put, List.setIfInBounds_toArray, List.set_cons_zero, List.set_cons_succ, List.getElem_toArray, List.getElem_cons_zero, List.getElem_cons_succ]
        refine take_s (i := 13) (v := .bool false) rfl (by kernel_rfl) (by kernel_rfl) (by kernel_rfl) (fun _ _ _ h => h) (by rfl) (fun w' hLat => exec_gtF _ _ _ rfl (N1 : Int) (K : Int) hN1 rfl rfl) hS ?_
        try simp only [Act.put, List.setIfInBounds_toArray, List.set_cons_zero, List.set_cons_succ, List.getElem_toArray, List.getElem_cons_zero, List.getElem_cons_succ]
        refine take_s (i := 14) (v := ?_) rfl (by kernel_rfl) (by kernel_rfl) (by kernel_rfl) (fun _ _ _ h => h) (by rfl) ?_ hS ?_
        rotate_left
        · intro w' hLat; clear hLat; go_simp <;> with_reducible rfl
        try simp only [Act.put, List.setIfInBounds_toArray, List.set_cons_zero, List.set_cons_succ, List.getElem_toArray, List.getElem_cons_zero, List.getElem_cons_succ]
        refine take_s (i := 15) (v := ?_) rfl (by kernel_rfl) (by kernel_rfl) (by kernel_rfl) (fun _ _ _ h => h) (by rfl) ?_ hS ?_
        rotate_left
        · intro w' hLat; clear hLat; go_simp <;> with_reducible rfl
        try simp only [Act.put, List.setIfInBounds_toArray, List.set_cons_zero, List.set_cons_succ, List.getElem_toArray, List.getElem_cons_zero, List.getElem_cons_succ]
        refine take_s (i := 16) (v := ?_) rfl (by kernel_rfl) (by kernel_rfl) (by kernel_rfl) (fun _ _ _ h => h) (by rfl) ?_ hS ?_
        rotate_left
        · intro w' hLat; clear hLat; go_simp <;> with_reducible rfl
        try simp only [Act.put, List.setIfInBounds_toArray, List.set_cons_zero, List.set_cons_succ, List.getElem_toArray, List.getElem_cons_zero, List.getElem_cons_succ]
        refine take_s (i := 20) (v := ?_) rfl (by kernel_rfl) (by kernel_rfl) (by kernel_rfl) (fun _ _ _ h => h) (by rfl) ?_ hS ?_
        rotate_left
        · intro w' hLat; clear hLat; go_simp <;> with_reducible rfl
        try simp only [Act.put, List.setIfInBounds_toArray, List.set_cons_zero, List.set_cons_succ, List.getElem_toArray, List.getElem_cons_zero, List.getElem_cons_succ]
        refine take_s (i := 21) (v := ?_) rfl (by kernel_rfl) (by kernel_rfl) (by kernel_rfl) (fun _ _ _ h => h) (by rfl) ?_ hS ?_
        rotate_left
        · intro w' hLat; clear hLat; go_simp <;> with_reducible rfl
        try simp only [Act.put, List.setIfInBounds_toArray, List.set_cons_zero, List.set_cons_succ, List.getElem_toArray, List.getElem_cons_zero, List.getElem_cons_succ]
        refine take_s (i := 22) (v := .pointer (some ⟨gb, off + q, none⟩)) rfl (by kernel_rfl) (by kernel_rfl) (by kernel_rfl) (fun _ _ _ h => h) (by rfl) (fun w' hLat => exec_idx64 _ _ rfl gb off len cap q rfl rfl hlt) hS ?_
        try simp only [Act.put, List.setIfInBounds_toArray, List.set_cons_zero, List.set_cons_succ, List.getElem_toArray, List.getElem_cons_zero, List.getElem_cons_succ]
        refine take_s (i := 23) (v := .int .u64 bq) rfl (by kernel_rfl) (by kernel_rfl) (by kernel_rfl) (fun _ _ _ h => h) (by rfl) (fun w' hLat => exec_load1 29 _ _ rfl Try.underlying29 rfl _ rfl _ hLat) hS ?_
        try simp only [Act.put, List.setIfInBounds_toArray, List.set_cons_zero, List.set_cons_succ, List.getElem_toArray, List.getElem_cons_zero, List.getElem_cons_succ]
        refine one_keep (i := 17) (by kernel_rfl) ?_
        refine keep_step rfl (by rfl) ?_
        go_simp
        refine Calls.mono (blocks_st w x3 C K (y :: L2) hs3) ?_
        rintro e x4 ⟨⟨S4, rfl, h4⟩, hs4, _⟩
        have hS := HA.out x4 hs4.bl
        have d4 : x4.cell? ⟨S4, 0, none⟩ = some (.int .u64 bq) := by rw [u64_at h4 (by simp)]; simp [hyb]
        rw [hN1e]
        refine ⟨hS, ?_⟩
        try simp only [Act.put, List.setIfInBounds_toArray, List.set_cons_zero, List.set_cons_succ, List.getElem_toArray, List.getElem_cons_zero, List.getElem_cons_succ]
        refine one_keep (i := 18) (by kernel_rfl) ?_
        refine keep_step rfl (by rfl) ?_
        refine wp_val (.pointer (some ⟨S4, 0 + 0, none⟩)) (exec_idx64 _ _ rfl S4 0 N1 N1 0 rfl rfl (by simp at hN1e; omega)) ?_
        refine ⟨hS, ?_⟩
        try simp only [Act.put, List.setIfInBounds_toArray, List.set_cons_zero, List.set_cons_succ, List.getElem_toArray, List.getElem_cons_zero, List.getElem_cons_succ]
        refine one_keep (i := 19) (by kernel_rfl) ?_
        refine keep_step rfl (by rfl) ?_
        refine wp_val (.int .u64 bq) (exec_load1 29 _ _ rfl Try.underlying29 rfl _ rfl _ d4) ?_
        refine ⟨hS, ?_⟩
        try simp only [Act.put, List.setIfInBounds_toArray, List.set_cons_zero, List.set_cons_succ, List.getElem_toArray, List.getElem_cons_zero, List.getElem_cons_succ]
        refine one_keep (i := 24) (by kernel_rfl) ?_
        refine keep_step rfl (by rfl) ?_
        refine wp_val (.bool false) (exec_neU _ _ _ rfl bq rfl rfl) ?_
        refine ⟨hS, ?_⟩
        try simp only [Act.put, List.setIfInBounds_toArray, List.set_cons_zero, List.set_cons_succ, List.getElem_toArray, List.getElem_cons_zero, List.getElem_cons_succ]
        refine take_s (i := 25) (v := ?_) rfl (by kernel_rfl) (by kernel_rfl) (by kernel_rfl) (fun _ _ _ h => h) (by rfl) ?_ hS ?_
        rotate_left
        · intro w' hLat; clear hLat; go_simp <;> with_reducible rfl
        try simp only [Act.put, List.setIfInBounds_toArray, List.set_cons_zero, List.set_cons_succ, List.getElem_toArray, List.getElem_cons_zero, List.getElem_cons_succ]
        refine wpAnyH_done (by kernel_rfl) ?_ _
        have H19 : Box (∃ L, St w x4 C K L ∧ Hd K v L) := ⟨_, hs4, hh2⟩
        clear hs1 hs2 hs3 hs4 hh2 hsd hS d4 h4 hf1 hyb hN1 hN1e
        go_wp2
        exact ⟨⟨q + 1, by omega, by omega, by simp, H19⟩, by simp [intOf]; omega⟩
    · obtain ⟨L, hs, hp⟩ := HI.out
      obtain ⟨i, hi⟩ : ∃ i, Fs L 7 i := by
        rcases fs_or L 7 with hno | hi
        · obtain ⟨x, hx, he⟩ := hp.has
          exact absurd he (hno x hx)
        · exact hi
      have hil : i < L.length := hi.1
      have hib : L[i].b = 7 := by obtain ⟨_, h1, _⟩ := hi; exact h1
      obtain ⟨h71, h72⟩ := hp.is7 _ (List.getElem_mem hil) hib
      have HY : Box (L[i].b = 7 ∧ L[i].h = 1) := ⟨hib, h71⟩
      have G2 : Box (Calls Try.prog 13 #[.pointer (some ⟨C, 0, none⟩), .int .u64 7] wr fun e w' => (∃ P c' , e = .returned (.tuple #[.slice (some ⟨P, 0, none⟩) 160 c', .bool true]) ∧ w'.cell? ⟨P, 0, none⟩ = some (.int .u8 v)) ∧ St w w' C K (L[i] :: L.eraseIdx i)) := ⟨(get_ok' w wr C K L hs 7 i hil hi).mono (by
        rintro e w' ⟨⟨a', c', rfl, h1⟩, h2, _⟩
        obtain ⟨Pb, cap6, cur, e6, hPb, hheap, hcs, _, _, hcell⟩ := own_block h1 (by omega)
        simp only [Value.slice.injEq, true_and] at e6
        obtain ⟨rfl, rfl⟩ := e6
        refine ⟨⟨Pb, _, rfl, ?_⟩, h2⟩
        rw [cell_of_row _ _ _ _ _ _ hheap, hcell 0 (by omega), h72]
        simp [o160])⟩
      have hz : (v == v) = true := by simp
      generalize L[i] = y at G2 HY
      clear hs hp HI hi hib h71 h72 hil HR
      by_cases h1 : q < len
      · have h2 : ¬ q < 40 := fun h => hgo ⟨h1, h⟩
        clear hgo
        go_wp2_with (first
          | (go_at_call 13; refine G2.out.mono ?_; rintro e w9 ⟨⟨P9, c9, rfl, d9⟩, hs9⟩; have U1 : Box _ := ⟨unpin_ok' w w9 C K _ hs9 7 0 (by simp) (fs_zero _ _ _ HY.out.1) (by show y.h ≠ 0; rw [HY.out.2]; decide)⟩; clear hs9 G2)
          | (go_at_call 17; refine U1.out.mono ?_; rintro e w10 ⟨rfl, hs10, f10⟩; have D1 : Box _ := ⟨drop_ok' w w10 C K _ hs10 7 0 (by simp) (fs_zero _ _ _ HY.out.1) (by show y.h - 1 = 0; rw [HY.out.2]; decide)⟩; clear hs10 f10 U1)
          | (go_at_call 18; refine D1.out.mono ?_; rintro e w11 ⟨rfl, hs11, f11⟩; have H11 : Box (Below w.heap.size w w11) := ⟨hs11.bl⟩; clear hs11 f11 D1))
        go_ret
        exact ⟨rfl, H11.out⟩
      · clear hgo
        go_wp2_with (first
          | (go_at_call 13; refine G2.out.mono ?_; rintro e w9 ⟨⟨P9, c9, rfl, d9⟩, hs9⟩; have U1 : Box _ := ⟨unpin_ok' w w9 C K _ hs9 7 0 (by simp) (fs_zero _ _ _ HY.out.1) (by show y.h ≠ 0; rw [HY.out.2]; decide)⟩; clear hs9 G2)
          | (go_at_call 17; refine U1.out.mono ?_; rintro e w10 ⟨rfl, hs10, f10⟩; have D1 : Box _ := ⟨drop_ok' w w10 C K _ hs10 7 0 (by simp) (fs_zero _ _ _ HY.out.1) (by show y.h - 1 = 0; rw [HY.out.2]; decide)⟩; clear hs10 f10 U1)
          | (go_at_call 18; refine D1.out.mono ?_; rintro e w11 ⟨rfl, hs11, f11⟩; have H11 : Box (Below w.heap.size w w11) := ⟨hs11.bl⟩; clear hs11 f11 D1))
        go_ret
        exact ⟨rfl, H11.out⟩
end Go.Proofs.Ythjfobcfdpogeaa
