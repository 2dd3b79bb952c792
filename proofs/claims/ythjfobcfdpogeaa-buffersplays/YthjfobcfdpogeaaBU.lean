/-
  What the reference's Put of layer 15 answers.
-/
import Derived.Test.YthjfobcfdpogeaaBT
namespace Go.Proofs.Ythjfobcfdpogeaa
set_option linter.unusedVariables false
open Go.RowKit Plain

set_option maxRecDepth 20000 in
set_option maxHeartbeats 4000000 in
theorem rput_new (w : World) (n : Int) (rv : Value) (L L' : List Kp) (h : RRow w rv L) (hl : L.length < 900000) (b : Int) (hn : No L b) (hr : Rm n L L' true) (hh : ∀ x ∈ L, 0 ≤ x.h) (bs : List Int) (hb : bs.length = 160) :
    Calls Try.prog 12 #[.agg #[.int .i64 n, rv], .int .u64 b, .string (strOfNums bs)] w fun e w' => ∃ rv', e = .returned (.tuple #[.agg #[.int .i64 n, rv'], .int .i64 0]) ∧ Rq w w' rv' (⟨b, none, 0, 0, bs, 0⟩ :: L') := by
  obtain ⟨a, cap, rfl, hc, hm⟩ := h.form
  obtain ⟨S, hS⟩ : ∃ S, w.heap.size = S := ⟨_, rfl⟩
  obtain ⟨N, hN⟩ : ∃ N, L.length = N := ⟨_, rfl⟩
  have HB0 : Box _ := ⟨bz_new w n (.slice a L.length cap)⟩
  have HR0 : Box (∀ y, Below w.heap.size w y → RRow y (.slice a L.length cap) L) := ⟨fun y hy => h.below hy⟩
  rw [hN] at HB0 HR0 hc ⊢
  have hcm : cap ≤ 9223372036854775807 := hm
  have HF : Box (∀ y, Below w.heap.size w y → Calls Try.prog 26 #[.slice a N cap, .int .u64 b] y fun e w' => e = .returned (.int .i64 (-1)) ∧ y = w') := ⟨fun y hy => rfind_no y _ L (HR0.out y hy) (by omega) b hn⟩
  have HM : Box (Rm n L L' true ∧ L.length < 900000 ∧ (∀ x ∈ L, 0 ≤ x.h) ∧ L.length = N) := ⟨hr, hl, hh, hN⟩
  have hz : (((strOfNums bs).size : Int) != 160) = false := by rw [size_str, hb]; rfl
  clear h hm hb hn hr hh hl hN
  go_enter Try.func12, Try.ntmps12
  go_upto_region 1 with (refine atAlloc _ ?_; refine wpList_run rfl _ _ (exec_alloc 28 rfl _ zeroC) ?_)
  (try simp only [hS] at HB0)
  (try simp only [hS])
  generalize (w.alloc (.cells #[.int .i64 n, .slice a N cap] 28)).alloc (.cells #[.int .i64 0, .slice none 0 0] 28) = w1 at HB0 ⊢
  have k1 := HB0.out.c1
  have HF1 : Box _ := ⟨HF.out w1 HB0.out.bl⟩
  clear HF
  have HI0 : Box (∃ ak Lk ck, Bz w w1 S n (.slice ak Lk.length ck) #[.int .i64 0, .slice none 0 0] ∧ RRow w1 (.slice ak Lk.length ck) Lk ∧ Rm n Lk L' true ∧ Lk.length < 900000 ∧ ∀ x ∈ Lk, 0 ≤ x.h) := ⟨by
    refine ⟨a, L, cap, ?_, ?_, HM.out.1, HM.out.2.1, HM.out.2.2.1⟩
    · rw [HM.out.2.2.2]; exact HB0.out
    · rw [HM.out.2.2.2]; exact HR0.out w1 HB0.out.bl⟩
  go_upto_region 4 with (go_at_call 26; refine HF1.out.mono ?_; rintro e w2 ⟨rfl, rfl⟩)
  clear HB0 HR0 HM HF1 k1
  go_wp2
  go_loopw [] (fun wr => Box (∃ ak Lk ck, Bz w wr S n (.slice ak Lk.length ck) #[.int .i64 0, .slice none 0 0] ∧ RRow wr (.slice ak Lk.length ck) Lk ∧ Rm n Lk L' true ∧ Lk.length < 900000 ∧ ∀ x ∈ Lk, 0 ≤ x.h)) (fun wr => lenC wr S)
  case atStart => exact HI0
  case round =>
    clear HI0
    obtain ⟨ak, Lk, ck, hB, hR, hRm, hlk, hhk⟩ := hrel.out
    clear hrel
    obtain ⟨wo, hwo⟩ : ∃ wo, wo = wr := ⟨_, rfl⟩
    rw [← hwo] at hB hR ⊢
    clear hwo
    have HB : Box _ := ⟨hB⟩
    have HR : Box _ := ⟨hR⟩
    have HM : Box (Rm n Lk L' true ∧ Lk.length < 900000 ∧ ∀ x ∈ Lk, 0 ≤ x.h) := ⟨hRm, hlk, hhk⟩
    have k0 := hB.c0
    have k1 := hB.c1
    have hlen := lenZ hB.c1
    have HC : Box _ := ⟨hRm.cases⟩
    have HLn : Box (lenC wo S = Lk.length) := ⟨hlen⟩
    clear hB hR hRm hhk hlen
    by_cases h0 : 0 < Lk.length
    · have hg1 : decide (0 < Lk.length) = true := by simpa using h0
      by_cases hge : n ≤ (Lk.length : Int)
      · have hg2 : decide (n ≤ (Lk.length : Int)) = true := by simpa using hge
        obtain ⟨gk, rfl, hgk⟩ : ∃ g, ak = some ⟨g, 0, none⟩ ∧ ∀ k (h : k < Lk.length), wo.cell? ⟨g, k * 3 + 2, none⟩ = some (.int .i64 Lk[k].h) := by
          obtain ⟨g, e, _, hr⟩ := HR.out.ways h0
          exact ⟨g, e, fun k hk => hr k hk 2 _ rfl⟩
        have HG : Box (∀ k (h : k < Lk.length), wo.cell? ⟨gk, k * 3 + 2, none⟩ = some (.int .i64 Lk[k].h)) := ⟨hgk⟩
        clear hgk
        have hw1 : IntKind.i64.wrap ((Lk.length : Int) - 1) = (Lk.length : Int) - 1 := by rw [IntKind.wrap_i64]; omega
        go_upto_region 10 with fail
        go_wp2
        go_loopw [10] (fun v wr => ∃ m : Nat, m ≤ Lk.length ∧ v = .int .i64 ((m : Int) - 1) ∧ Box (wr = wo ∧ ∀ j (hj : j < Lk.length), m ≤ j → Lk[j].h ≠ 0)) (fun v _ => (intOf v + 1).toNat)
        case atStart => exact ⟨Lk.length, Nat.le_refl _, rfl, ⟨rfl, fun j hj hlt => by omega⟩⟩
        case round =>
          obtain ⟨m, hm, rfl, HI⟩ := hrel
          obtain ⟨hwr, hno⟩ := HI.out
          rw [hwr]
          have HI2 : Box (∀ j (hj : j < Lk.length), m ≤ j → Lk[j].h ≠ 0) := ⟨hno⟩
          clear hwr hno HI
          cases m with
          | zero =>
            exfalso
            rcases HC.out with ⟨h1, _⟩ | ⟨_, _, _, h4⟩ | ⟨i, _, ⟨hi, h5, _⟩, _⟩
            · omega
            · cases h4
            · exact HI2.out i hi (Nat.zero_le _) h5
          | succ m =>
            rw [show (((m + 1 : Nat) : Int) - 1) = (m : Int) by omega]
            have d2 := HG.out m (by omega)
            have hge0 := HM.out.2.2 _ (List.getElem_mem (show m < Lk.length by omega))
            have hw2 : IntKind.i64.wrap ((m : Int) - 1) = (m : Int) - 1 := by rw [IntKind.wrap_i64]; omega
            have hmL : m < Lk.length := by omega
            obtain ⟨z, hz2⟩ : ∃ z, Lk[m].h = z := ⟨_, rfl⟩
            have HZ : Box (Lk[m].h = z) := ⟨hz2⟩
            rw [hz2] at d2 hge0
            clear hz2
            by_cases hz3 : 0 < z
            · have hz4 : decide (0 < z) = true := by simpa using hz3
              go_wp2
              exact ⟨⟨m, by omega, by simp, ⟨by first | rfl | trivial, fun j hj hlt => by
                by_cases e : j = m
                · subst e; rw [HZ.out]; omega
                · exact HI2.out j hj (by omega)⟩⟩, by simp [intOf]⟩
            · have hz4 : decide (0 < z) = false := by simpa using hz3
              have HW : Box _ := ⟨without_any wo _ Lk HR.out (by have := HM.out.2.1; omega) m hmL⟩
              have HS : Box (Rm n (Lk.eraseIdx m) L' true) := ⟨by
                rcases HC.out with ⟨h1, _⟩ | ⟨_, h2, _⟩ | ⟨i, _, ⟨hi, h5, h6⟩, h7⟩
                · omega
                · exact absurd (by rw [HZ.out]; omega) (h2 _ (List.getElem_mem hmL))
                · have e : i = m := by
                    rcases Nat.lt_trichotomy i m with hlt | hlt | hlt
                    · exact absurd (by rw [HZ.out]; omega) (h6 m hmL hlt)
                    · exact hlt
                    · exact absurd h5 (HI2.out i hi (by omega))
                  rw [← e]
                  exact h7⟩
              go_wp2_with (go_at_call 28; refine HW.out.mono ?_; rintro e w3 ⟨rv3, rfl, hr3, hb3, hn3⟩; obtain ⟨a3, c3, rfl, _, _⟩ := hr3.form; have hB3 := HB.out.below hb3; have k3 := hB3.c1; have f3 := hB3.f1; have HB5 : Box _ := ⟨hB3.set0 (.slice a3 (Lk.eraseIdx m).length c3)⟩; have HR5 : Box (RRow (w3.setCell ⟨S, 1, none⟩ (.slice a3 (Lk.eraseIdx m).length c3)) (.slice a3 (Lk.eraseIdx m).length c3) (Lk.eraseIdx m)) := ⟨own_same hr3 (fun k hk => heap_setCell_other w3 ⟨S, 1, none⟩ k _ (fun e => by have h1 := hn3 k hk; have h2 := HB.out.lt; have e' : k = S := e; omega))⟩; clear hr3 hb3 hn3 hB3)
              have he : (Lk.eraseIdx m).length < Lk.length := by rw [List.length_eraseIdx, if_pos hmL]; omega
              refine ⟨⟨a3, Lk.eraseIdx m, c3, HB5.out, HR5.out, HS.out, by have := HM.out.2.1; omega, fun x hx => HM.out.2.2 x (List.mem_of_mem_eraseIdx hx)⟩, ?_⟩
              rw [lenZ HB5.out.c1, HLn.out]
              exact he
      · have hg2 : decide (n ≤ (Lk.length : Int)) = false := by simpa using hge
        go_upto_region 16 with fail
        have HL2 : Box (L' = Lk ∧ (Lk.length : Int) < n) := ⟨by
          rcases HC.out with ⟨h1, h2, _⟩ | ⟨_, _, _, h4⟩ | ⟨i, h1, ⟨hi, _⟩, _⟩
          · exact ⟨h2, h1⟩
          · cases h4
          · omega⟩
        have hn1 : decide (n < 1) = false := by have := HL2.out.2; simp; omega
        have HFi : Box _ := ⟨first_any wo _ Lk ⟨b, none, 0, 0, bs, 0⟩ HR.out HM.out.2.1⟩
        go_upto_region 19 with (first
          | (refine atBuild _ ?_; refine wpList_run rfl _ _ (exec_built 49 [(0, .tmp 77), (1, .tmp 78)] rfl [(0, .int .u64 b), (1, .string (strOfNums bs))] rfl _ (built_B b _)) ?_)
          | (go_at_call 27; refine HFi.out.mono ?_; rintro e w3 ⟨rv3, rfl, hr3, hb3, hn3⟩; obtain ⟨a3, c3, rfl, _, _⟩ := hr3.form; have hB3 := HB.out.below hb3; have k3 := hB3.c1; have f3 := hB3.f1; have HB5 : Box _ := ⟨hB3.set0 (.slice a3 ((⟨b, none, 0, 0, bs, 0⟩ : Kp) :: Lk).length c3)⟩; have HR5 : Box (RRow (w3.setCell ⟨S, 1, none⟩ (.slice a3 ((⟨b, none, 0, 0, bs, 0⟩ : Kp) :: Lk).length c3)) (.slice a3 ((⟨b, none, 0, 0, bs, 0⟩ : Kp) :: Lk).length c3) (⟨b, none, 0, 0, bs, 0⟩ :: Lk)) := ⟨own_same hr3 (fun k hk => heap_setCell_other w3 ⟨S, 1, none⟩ k _ (fun e => by have h1 := hn3 k hk; have h2 := HB.out.lt; have e' : k = S := e; omega))⟩; clear hr3 hb3 hn3 hB3))
        simp only [List.length_cons] at HB5 HR5 ⊢
        generalize w3.setCell ⟨S, 1, none⟩ (.slice a3 (Lk.length + 1) c3) = w5 at HB5 HR5 ⊢
        clear k3 f3 k0 k1 HB HR HFi
        go_wp2_with (first
          | (refine atLoad _ ?_; refine wpList_load_mid rfl 28 _ rfl S 0 rfl [.int .i64 n, .slice a3 (Lk.length + 1) c3] _ HB5.out.range Try.underlying28 rfl sizeC ?_)
          | (refine atStore _ ?_; refine wpList_store_mid rfl 28 _ _ rfl (S + 1) 0 #[.int .i64 n, .slice a3 (Lk.length + 1) c3] rfl rfl HB5.out.there sizeC (by simp [Value.oneCell']) ?_))
        have hB6 := HB5.out.put
        refine bodyPost_ret (results_C2 rfl _ _ (S + 1) [.int .i64 n, .slice a3 (Lk.length + 1) c3] rfl rfl hB6.b1) rfl ?_
        rw [HL2.out.1]
        exact ⟨_, rfl, HB5.out.row HR5.out, hB6.bl⟩
    · have hg1 : decide (0 < Lk.length) = false := by simpa using h0
      go_upto_region 16 with fail
      have HL2 : Box (L' = Lk ∧ (Lk.length : Int) < n) := ⟨by
        rcases HC.out with ⟨h1, h2, _⟩ | ⟨_, _, _, h4⟩ | ⟨i, h1, ⟨hi, _⟩, _⟩
        · exact ⟨h2, h1⟩
        · cases h4
        · omega⟩
      have hn1 : decide (n < 1) = false := by have := HL2.out.2; simp; omega
      have HFi : Box _ := ⟨first_any wo _ Lk ⟨b, none, 0, 0, bs, 0⟩ HR.out HM.out.2.1⟩
      go_upto_region 19 with (first
        | (refine atBuild _ ?_; refine wpList_run rfl _ _ (exec_built 49 [(0, .tmp 77), (1, .tmp 78)] rfl [(0, .int .u64 b), (1, .string (strOfNums bs))] rfl _ (built_B b _)) ?_)
        | (go_at_call 27; refine HFi.out.mono ?_; rintro e w3 ⟨rv3, rfl, hr3, hb3, hn3⟩; obtain ⟨a3, c3, rfl, _, _⟩ := hr3.form; have hB3 := HB.out.below hb3; have k3 := hB3.c1; have f3 := hB3.f1; have HB5 : Box _ := ⟨hB3.set0 (.slice a3 ((⟨b, none, 0, 0, bs, 0⟩ : Kp) :: Lk).length c3)⟩; have HR5 : Box (RRow (w3.setCell ⟨S, 1, none⟩ (.slice a3 ((⟨b, none, 0, 0, bs, 0⟩ : Kp) :: Lk).length c3)) (.slice a3 ((⟨b, none, 0, 0, bs, 0⟩ : Kp) :: Lk).length c3) (⟨b, none, 0, 0, bs, 0⟩ :: Lk)) := ⟨own_same hr3 (fun k hk => heap_setCell_other w3 ⟨S, 1, none⟩ k _ (fun e => by have h1 := hn3 k hk; have h2 := HB.out.lt; have e' : k = S := e; omega))⟩; clear hr3 hb3 hn3 hB3))
      simp only [List.length_cons] at HB5 HR5 ⊢
      generalize w3.setCell ⟨S, 1, none⟩ (.slice a3 (Lk.length + 1) c3) = w5 at HB5 HR5 ⊢
      clear k3 f3 k0 k1 HB HR HFi
      go_wp2_with (first
        | (refine atLoad _ ?_; refine wpList_load_mid rfl 28 _ rfl S 0 rfl [.int .i64 n, .slice a3 (Lk.length + 1) c3] _ HB5.out.range Try.underlying28 rfl sizeC ?_)
        | (refine atStore _ ?_; refine wpList_store_mid rfl 28 _ _ rfl (S + 1) 0 #[.int .i64 n, .slice a3 (Lk.length + 1) c3] rfl rfl HB5.out.there sizeC (by simp [Value.oneCell']) ?_))
      have hB6 := HB5.out.put
      refine bodyPost_ret (results_C2 rfl _ _ (S + 1) [.int .i64 n, .slice a3 (Lk.length + 1) c3] rfl rfl hB6.b1) rfl ?_
      rw [HL2.out.1]
      exact ⟨_, rfl, HB5.out.row HR5.out, hB6.bl⟩
set_option maxRecDepth 20000 in
set_option maxHeartbeats 4000000 in
theorem rput_full (w : World) (n : Int) (rv : Value) (L L' : List Kp) (h : RRow w rv L) (hl : L.length < 900000) (b : Int) (hn : No L b) (hr : Rm n L L' false) (hh : ∀ x ∈ L, 0 ≤ x.h) (bs : List Int) (hb : bs.length = 160) :
    Calls Try.prog 12 #[.agg #[.int .i64 n, rv], .int .u64 b, .string (strOfNums bs)] w fun e w' => ∃ rv', e = .returned (.tuple #[.agg #[.int .i64 n, rv'], .int .i64 17]) ∧ Rq w w' rv' L' := by
  obtain ⟨a, cap, rfl, hc, hm⟩ := h.form
  obtain ⟨S, hS⟩ : ∃ S, w.heap.size = S := ⟨_, rfl⟩
  obtain ⟨N, hN⟩ : ∃ N, L.length = N := ⟨_, rfl⟩
  have HB0 : Box _ := ⟨bz_new w n (.slice a L.length cap)⟩
  have HR0 : Box (∀ y, Below w.heap.size w y → RRow y (.slice a L.length cap) L) := ⟨fun y hy => h.below hy⟩
  rw [hN] at HB0 HR0 hc ⊢
  have hcm : cap ≤ 9223372036854775807 := hm
  have HF : Box (∀ y, Below w.heap.size w y → Calls Try.prog 26 #[.slice a N cap, .int .u64 b] y fun e w' => e = .returned (.int .i64 (-1)) ∧ y = w') := ⟨fun y hy => rfind_no y _ L (HR0.out y hy) (by omega) b hn⟩
  have HM : Box (Rm n L L' false ∧ L.length < 900000 ∧ (∀ x ∈ L, 0 ≤ x.h) ∧ L.length = N) := ⟨hr, hl, hh, hN⟩
  have hz : (((strOfNums bs).size : Int) != 160) = false := by rw [size_str, hb]; rfl
  clear h hm hb hn hr hh hl hN
  go_enter Try.func12, Try.ntmps12
  go_upto_region 1 with (refine atAlloc _ ?_; refine wpList_run rfl _ _ (exec_alloc 28 rfl _ zeroC) ?_)
  (try simp only [hS] at HB0)
  (try simp only [hS])
  generalize (w.alloc (.cells #[.int .i64 n, .slice a N cap] 28)).alloc (.cells #[.int .i64 0, .slice none 0 0] 28) = w1 at HB0 ⊢
  have k1 := HB0.out.c1
  have HF1 : Box _ := ⟨HF.out w1 HB0.out.bl⟩
  clear HF
  have HI0 : Box (∃ ak Lk ck, Bz w w1 S n (.slice ak Lk.length ck) #[.int .i64 0, .slice none 0 0] ∧ RRow w1 (.slice ak Lk.length ck) Lk ∧ Rm n Lk L' false ∧ Lk.length < 900000 ∧ ∀ x ∈ Lk, 0 ≤ x.h) := ⟨by
    refine ⟨a, L, cap, ?_, ?_, HM.out.1, HM.out.2.1, HM.out.2.2.1⟩
    · rw [HM.out.2.2.2]; exact HB0.out
    · rw [HM.out.2.2.2]; exact HR0.out w1 HB0.out.bl⟩
  go_upto_region 4 with (go_at_call 26; refine HF1.out.mono ?_; rintro e w2 ⟨rfl, rfl⟩)
  clear HB0 HR0 HM HF1 k1
  go_wp2
  go_loopw [] (fun wr => Box (∃ ak Lk ck, Bz w wr S n (.slice ak Lk.length ck) #[.int .i64 0, .slice none 0 0] ∧ RRow wr (.slice ak Lk.length ck) Lk ∧ Rm n Lk L' false ∧ Lk.length < 900000 ∧ ∀ x ∈ Lk, 0 ≤ x.h)) (fun wr => lenC wr S)
  case atStart => exact HI0
  case round =>
    clear HI0
    obtain ⟨ak, Lk, ck, hB, hR, hRm, hlk, hhk⟩ := hrel.out
    clear hrel
    obtain ⟨wo, hwo⟩ : ∃ wo, wo = wr := ⟨_, rfl⟩
    rw [← hwo] at hB hR ⊢
    clear hwo
    have HB : Box _ := ⟨hB⟩
    have HR : Box _ := ⟨hR⟩
    have HM : Box (Rm n Lk L' false ∧ Lk.length < 900000 ∧ ∀ x ∈ Lk, 0 ≤ x.h) := ⟨hRm, hlk, hhk⟩
    have k0 := hB.c0
    have k1 := hB.c1
    have hlen := lenZ hB.c1
    have HC : Box _ := ⟨hRm.cases⟩
    have HLn : Box (lenC wo S = Lk.length) := ⟨hlen⟩
    clear hB hR hRm hhk hlen
    by_cases h0 : 0 < Lk.length
    · have hg1 : decide (0 < Lk.length) = true := by simpa using h0
      by_cases hge : n ≤ (Lk.length : Int)
      · have hg2 : decide (n ≤ (Lk.length : Int)) = true := by simpa using hge
        obtain ⟨gk, rfl, hgk⟩ : ∃ g, ak = some ⟨g, 0, none⟩ ∧ ∀ k (h : k < Lk.length), wo.cell? ⟨g, k * 3 + 2, none⟩ = some (.int .i64 Lk[k].h) := by
          obtain ⟨g, e, _, hr⟩ := HR.out.ways h0
          exact ⟨g, e, fun k hk => hr k hk 2 _ rfl⟩
        have HG : Box (∀ k (h : k < Lk.length), wo.cell? ⟨gk, k * 3 + 2, none⟩ = some (.int .i64 Lk[k].h)) := ⟨hgk⟩
        clear hgk
        have hw1 : IntKind.i64.wrap ((Lk.length : Int) - 1) = (Lk.length : Int) - 1 := by rw [IntKind.wrap_i64]; omega
        go_upto_region 10 with fail
        go_wp2
        go_loopw [10] (fun v wr => ∃ m : Nat, m ≤ Lk.length ∧ v = .int .i64 ((m : Int) - 1) ∧ Box (wr = wo ∧ ∀ j (hj : j < Lk.length), m ≤ j → Lk[j].h ≠ 0)) (fun v _ => (intOf v + 1).toNat)
        case atStart => exact ⟨Lk.length, Nat.le_refl _, rfl, ⟨rfl, fun j hj hlt => by omega⟩⟩
        case round =>
          obtain ⟨m, hm, rfl, HI⟩ := hrel
          obtain ⟨hwr, hno⟩ := HI.out
          rw [hwr]
          have HI2 : Box (∀ j (hj : j < Lk.length), m ≤ j → Lk[j].h ≠ 0) := ⟨hno⟩
          clear hwr hno HI
          cases m with
          | zero =>
            have hLL : L' = Lk := by
              rcases HC.out with ⟨h1, _⟩ | ⟨_, _, h3, _⟩ | ⟨i, _, ⟨hi, h5, _⟩, _⟩
              · omega
              · exact h3
              · exact absurd h5 (HI2.out i hi (Nat.zero_le _))
            have HL2 : Box (L' = Lk) := ⟨hLL⟩
            clear hLL
            go_upto_region 14 with fail
            go_wp2_with (first
              | (refine atLoad _ ?_; refine wpList_load_mid rfl 28 _ rfl S 0 rfl [.int .i64 n, .slice (some ⟨gk, 0, none⟩) Lk.length ck] _ HB.out.range Try.underlying28 rfl sizeC ?_)
              | (refine atStore _ ?_; refine wpList_store_mid rfl 28 _ _ rfl (S + 1) 0 #[.int .i64 n, .slice (some ⟨gk, 0, none⟩) Lk.length ck] rfl rfl HB.out.there sizeC (by simp [Value.oneCell']) ?_))
            have hB6 := HB.out.put
            refine bodyPost_ret (results_C2 rfl _ _ (S + 1) [.int .i64 n, .slice (some ⟨gk, 0, none⟩) Lk.length ck] rfl rfl hB6.b1) rfl ?_
            rw [HL2.out]
            exact ⟨_, rfl, HB.out.row HR.out, hB6.bl⟩
          | succ m =>
            rw [show (((m + 1 : Nat) : Int) - 1) = (m : Int) by omega]
            have d2 := HG.out m (by omega)
            have hge0 := HM.out.2.2 _ (List.getElem_mem (show m < Lk.length by omega))
            have hw2 : IntKind.i64.wrap ((m : Int) - 1) = (m : Int) - 1 := by rw [IntKind.wrap_i64]; omega
            have hmL : m < Lk.length := by omega
            obtain ⟨z, hz2⟩ : ∃ z, Lk[m].h = z := ⟨_, rfl⟩
            have HZ : Box (Lk[m].h = z) := ⟨hz2⟩
            rw [hz2] at d2 hge0
            clear hz2
            by_cases hz3 : 0 < z
            · have hz4 : decide (0 < z) = true := by simpa using hz3
              go_wp2
              exact ⟨⟨m, by omega, by simp, ⟨by first | rfl | trivial, fun j hj hlt => by
                by_cases e : j = m
                · subst e; rw [HZ.out]; omega
                · exact HI2.out j hj (by omega)⟩⟩, by simp [intOf]⟩
            · have hz4 : decide (0 < z) = false := by simpa using hz3
              have HW : Box _ := ⟨without_any wo _ Lk HR.out (by have := HM.out.2.1; omega) m hmL⟩
              have HS : Box (Rm n (Lk.eraseIdx m) L' false) := ⟨by
                rcases HC.out with ⟨h1, _⟩ | ⟨_, h2, _⟩ | ⟨i, _, ⟨hi, h5, h6⟩, h7⟩
                · omega
                · exact absurd (by rw [HZ.out]; omega) (h2 _ (List.getElem_mem hmL))
                · have e : i = m := by
                    rcases Nat.lt_trichotomy i m with hlt | hlt | hlt
                    · exact absurd (by rw [HZ.out]; omega) (h6 m hmL hlt)
                    · exact hlt
                    · exact absurd h5 (HI2.out i hi (by omega))
                  rw [← e]
                  exact h7⟩
              go_wp2_with (go_at_call 28; refine HW.out.mono ?_; rintro e w3 ⟨rv3, rfl, hr3, hb3, hn3⟩; obtain ⟨a3, c3, rfl, _, _⟩ := hr3.form; have hB3 := HB.out.below hb3; have k3 := hB3.c1; have f3 := hB3.f1; have HB5 : Box _ := ⟨hB3.set0 (.slice a3 (Lk.eraseIdx m).length c3)⟩; have HR5 : Box (RRow (w3.setCell ⟨S, 1, none⟩ (.slice a3 (Lk.eraseIdx m).length c3)) (.slice a3 (Lk.eraseIdx m).length c3) (Lk.eraseIdx m)) := ⟨own_same hr3 (fun k hk => heap_setCell_other w3 ⟨S, 1, none⟩ k _ (fun e => by have h1 := hn3 k hk; have h2 := HB.out.lt; have e' : k = S := e; omega))⟩; clear hr3 hb3 hn3 hB3)
              have he : (Lk.eraseIdx m).length < Lk.length := by rw [List.length_eraseIdx, if_pos hmL]; omega
              refine ⟨⟨a3, Lk.eraseIdx m, c3, HB5.out, HR5.out, HS.out, by have := HM.out.2.1; omega, fun x hx => HM.out.2.2 x (List.mem_of_mem_eraseIdx hx)⟩, ?_⟩
              rw [lenZ HB5.out.c1, HLn.out]
              exact he
      · exfalso
        rcases HC.out with ⟨_, _, h3⟩ | ⟨h1, _⟩ | ⟨i, h1, _⟩
        · cases h3
        · exact hge h1
        · exact hge h1
    · have hg1 : decide (0 < Lk.length) = false := by simpa using h0
      go_upto_region 16 with fail
      have HL2 : Box (L' = Lk ∧ n < 1) := ⟨by
        rcases HC.out with ⟨_, _, h3⟩ | ⟨h1, _, h3, _⟩ | ⟨i, _, ⟨hi, _⟩, _⟩
        · cases h3
        · exact ⟨h3, by omega⟩
        · omega⟩
      have hn1 : decide (n < 1) = true := by simpa using HL2.out.2
      go_wp2_with (first
        | (refine atLoad _ ?_; refine wpList_load_mid rfl 28 _ rfl S 0 rfl [.int .i64 n, .slice ak Lk.length ck] _ HB.out.range Try.underlying28 rfl sizeC ?_)
        | (refine atStore _ ?_; refine wpList_store_mid rfl 28 _ _ rfl (S + 1) 0 #[.int .i64 n, .slice ak Lk.length ck] rfl rfl HB.out.there sizeC (by simp [Value.oneCell']) ?_))
      have hB6 := HB.out.put
      refine bodyPost_ret (results_C2 rfl _ _ (S + 1) [.int .i64 n, .slice ak Lk.length ck] rfl rfl hB6.b1) rfl ?_
      rw [HL2.out.1]
      exact ⟨_, rfl, HB.out.row HR.out, hB6.bl⟩
end Go.Proofs.Ythjfobcfdpogeaa
