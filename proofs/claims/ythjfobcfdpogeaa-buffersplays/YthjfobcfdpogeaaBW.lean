/-
  The walk of BuffersPlays: whatever is done with a cache, the row of its blocks, and what each operation tells, are the document's, step by step.
-/
import Derived.Test.YthjfobcfdpogeaaBV
import Derived.Deep.CutBlock
namespace Go.Proofs.Ythjfobcfdpogeaa
set_option linter.unusedVariables false
open Go.RowKit Plain

/-- The cells of an operation. -/
def ac (kd bl : Int) (xa : Option Addr) (xl xc : Nat) (sh : Bool) : List Value := [.int .i64 kd, .int .u64 bl, .slice xa xl xc, .bool sh]
def Ae (W : World) (cs : List Value) : Prop := ∃ (kd bl : Int) (xa : Option Addr) (xl xc : Nat) (sh : Bool) (X : List Int), cs = ac kd bl xa xl xc sh ∧ Bytes W xa xl X ∧ xl ≤ maxLen ∧ U64 bl
def Acts (W : World) (a : Option Addr) (len : Nat) : Prop := len ≤ maxLen ∧ (0 < len → ∃ b off, a = some ⟨b, off, none⟩ ∧ b < W.heap.size ∧ ∀ i, i < len → ∃ cs, W.rangeAt b (off + i * 4) cs ∧ Ae W cs)
theorem sizeA : (Try.prog.info? 32).map (·.size) = some 4 := by kernel_rfl
theorem zeroA : (Try.prog.info? 32).map (·.zero) = some (some (.agg #[.int .i64 0, .int .u64 0, .slice none 0 0, .bool false])) := by kernel_rfl
theorem built_C15 (n : Int) : Try.prog.built 28 [(0, .int .i64 n)] = some #[.int .i64 n, .slice none 0 0] := by kernel_rfl
theorem slice_one (a : Option Addr) (l c : Nat) : (Value.slice a l c).oneCell' = true := rfl
theorem shn_le (s : Bool) : shn s ≤ 160 := by unfold shn; split <;> omega
/-- A row laid into a new block leaves all that was there. -/
theorem new_C (w5 : World) (n : Int) (rv : Value) (Z : Nat) (hZ : w5.heap.size = Z) : Below w5.heap.size w5 ((w5.alloc (.cells #[.int .i64 0, .slice none 0 0] 28)).setCells Z 0 [.int .i64 n, rv]) ∧ ((w5.alloc (.cells #[.int .i64 0, .slice none 0 0] 28)).setCells Z 0 [.int .i64 n, rv]).rangeAt Z 0 [.int .i64 n, rv] ∧ (w5.alloc (.cells #[.int .i64 0, .slice none 0 0] 28)).there Z 0 2 := by
  have h := laid_new w5 #[.int .i64 0, .slice none 0 0] 28 [.int .i64 n, rv] rfl
  rw [hZ] at h
  refine ⟨by rw [hZ]; exact h.1, range_arr h.2.2 _ (fun j v hv => by simpa using hv), there_row (al_at hZ) (Nat.le_refl _)⟩
theorem bytes_setC {w6 : World} {G : Nat} {n n' : Int} {ra rb : Option Addr} {rl rk rc rd : Nat} {xa : Option Addr} {xl : Nat} {s : List Int} (hg : w6.heap[G]? = some (.cells #[.int .i64 n, .slice ra rl rc] 28 (0, 0))) (h : Bytes w6 xa xl s) : Bytes (w6.setCells G 0 [.int .i64 n', .slice rb rk rd]) xa xl s := by
  have hbt := But.setCells (G := G) [.int .i64 n', .slice rb rk rd] 0 (But.refl G w6)
  refine ⟨h.1, h.2.1, fun h0 => ?_⟩
  obtain ⟨yb, yo, ey, hyl, hyc⟩ := h.2.2 h0
  refine ⟨yb, yo, ey, Nat.lt_of_lt_of_le hyl hbt.size, fun i hi => but_cell hbt (hyc i hi) (fun e => ?_)⟩
  have h1 := hyc i hi
  have e' : yb = G := e
  rw [e', cell_of_row _ _ _ _ _ _ hg] at h1
  generalize yo + i = m at h1
  match m, h1 with
  | 0, h1 => simp at h1
  | 1, h1 => simp at h1
  | m + 2, h1 => simp at h1
theorem u64_at8 {w : World} {S q : Nat} {X : List Int} (h : w.heap[S]? = some (.cells (u64s X) 29 (0, 0))) (hq : q < X.length) : w.cell? ⟨S, q, none⟩ = some (.int .u64 X[q]) := by
  rw [cell_of_row _ _ _ _ _ _ h]
  simp [u64s, hq]
set_option maxRecDepth 20000 in
set_option maxHeartbeats 16000000 in
theorem buffersPlays_walk (n : Int) (a : Option Addr) (len cap : Nat) (w : World) (hn : (Lit.int .i64 n).wf = true) (hA : Acts w a len) :
    Calls Try.prog 3 #[.int .i64 n, .slice a len cap] w fun e w' => e = .returned (.bool true) ∧ Below w.heap.size w w' := by
  have hl9 : len ≤ 9223372036854775807 := hA.1
  have HA : Box (Acts w a len) := ⟨hA⟩
  have AW : Box _ := ⟨awake_any w⟩
  clear hn hA
  go_enter Try.func3, Try.ntmps3
  go_upto_region 5 with (first
    | (go_at_call 8; refine AW.out.mono ?_; rintro e w1 ⟨rfl, hb1⟩; have N1 : Box _ := ⟨new_st w w1 hb1 n⟩; clear hb1 AW)
    | (go_at_call 9; refine N1.out.mono ?_; rintro e w2 ⟨C, rfl, hs2, hb2⟩; have S2 : Box _ := ⟨hs2⟩; clear hs2 hb2 N1))
  obtain ⟨G, hG⟩ : ∃ G, w2.heap.size = G := ⟨_, rfl⟩
  have hN := laid_new w2 #[.int .i64 0, .slice none 0 0] 28 [.int .i64 n, .slice none 0 0] rfl
  rw [hG] at hN
  have HT : Box ((w2.alloc (.cells #[.int .i64 0, .slice none 0 0] 28)).there G 0 2) := ⟨there_row (al_at hG) (Nat.le_refl _)⟩
  have HP : Box (Py w ((w2.alloc (.cells #[.int .i64 0, .slice none 0 0] 28)).setCells G 0 [.int .i64 n, .slice none 0 0]) C G n (.slice none 0 0) [] 0) := ⟨S2.out.below (by rw [hG]; exact hN.1), hN.2.2, RRow.nil _, ⟨Nat.le_refl _, fun x hx => by simp at hx, fun x hx => by simp at hx⟩, by rw [← hG]; exact S2.out.bl.size⟩
  clear hN
  go_upto_region 6 with (first
    | (refine atBuild _ ?_; refine wpList_run rfl _ _ (exec_built 28 [(0, .tmp 36)] rfl [(0, .int .i64 n)] rfl _ (built_C15 n)) ?_)
    | (refine atAlloc _ ?_; refine wpList_run rfl _ _ (exec_alloc 28 rfl _ zeroC) ?_)
    | (refine atStore _ ?_; (try simp only [hG]); refine wpList_store_mid rfl 28 _ _ rfl G 0 #[.int .i64 n, .slice none 0 0] rfl rfl HT.out sizeC (by simp [Value.oneCell']) ?_))
  (try simp only [hG])
  generalize (w2.alloc (.cells #[.int .i64 0, .slice none 0 0] 28)).setCells G 0 #[.int .i64 n, .slice none 0 0].toList = w3 at HP ⊢
  clear HT hG S2
  go_wp2
  go_loopw [8] (fun j wr => ∃ k : Nat, k ≤ len ∧ k ≤ 60 ∧ j = .int .i64 k ∧ Box (∃ rv L, Py w wr C G n rv L k)) (fun j _ => 60 - (intOf j).toNat)
  case atStart => exact ⟨0, Nat.zero_le _, Nat.zero_le _, rfl, ⟨_, _, HP.out⟩⟩
  case round =>
    clear HP
    obtain ⟨k, hk, hk60, rfl, HI⟩ := hrel
    by_cases h1 : k < len
    · by_cases h2 : k < 60
      · obtain ⟨rv, L, hpy⟩ := HI.out
        clear HI
        obtain ⟨wo, hwo⟩ : ∃ wo, wo = wr := ⟨_, rfl⟩
        rw [← hwo] at hpy ⊢
        clear hwo
        obtain ⟨sb, so, rfl, hsb, hac⟩ := HA.out.2 (by omega)
        obtain ⟨cs, hcr, kd, bl, xa, xl, xc, sh, X, rfl, hX, hxl, hU⟩ := hac k h1
        have HU : Box (U64 bl) := ⟨hU⟩
        have HR : Box (wo.rangeAt sb (so + k * 4) (ac kd bl xa xl xc sh)) := ⟨range_below hcr hpy.st.bl hsb⟩
        obtain ⟨A, hAe⟩ : ∃ A, wo.heap.size = A := ⟨_, rfl⟩
        have hNa := laid_new wo #[.int .i64 0, .int .u64 0, .slice none 0 0, .bool false] 32 (ac kd bl xa xl xc sh) rfl
        rw [hAe] at hNa
        have HTa : Box ((wo.alloc (.cells #[.int .i64 0, .int .u64 0, .slice none 0 0, .bool false] 32)).there A 0 (ac kd bl xa xl xc sh).toArray.size) := ⟨there_row (al_at hAe) (Nat.le_refl _)⟩
        have H2 : Box (Py w ((wo.alloc (.cells #[.int .i64 0, .int .u64 0, .slice none 0 0, .bool false] 32)).setCells A 0 (ac kd bl xa xl xc sh)) C G n rv L k ∧ ((wo.alloc (.cells #[.int .i64 0, .int .u64 0, .slice none 0 0, .bool false] 32)).setCells A 0 (ac kd bl xa xl xc sh)).heap[A]? = some (.cells (ac kd bl xa xl xc sh).toArray 32 (0, 0))) := ⟨hpy.below (by rw [hAe]; exact hNa.1), hNa.2.2⟩
        have HX : Box (Bytes w xa xl X ∧ xl ≤ 9223372036854775807) := ⟨hX, hxl⟩
        clear hNa hcr hac hX hxl hU hpy
        go_upto_region 10 with (first
          | (refine atAlloc _ ?_; refine wpList_run rfl _ _ (exec_alloc 32 rfl _ zeroA) ?_)
          | (refine atStore _ ?_; (try simp only [hAe]); refine wpList_store_mid rfl 32 _ _ rfl A 0 (ac kd bl xa xl xc sh).toArray rfl rfl HTa.out sizeA (by simp [ac, Value.oneCell']) ?_)
          | (refine atLoad _ ?_; refine wpList_load_mid rfl 32 _ rfl sb (so + k * 4) rfl (ac kd bl xa xl xc sh) _ HR.out Try.underlying32 rfl sizeA ?_))
        (try simp only [hAe])
        generalize (wo.alloc (.cells #[.int .i64 0, .int .u64 0, .slice none 0 0, .bool false] 32)).setCells A 0 (ac kd bl xa xl xc sh).toArray.toList = w2' at H2 ⊢
        clear HTa HR hAe
        have e2 : w2'.cell? ⟨A, 2, none⟩ = some (.slice xa xl xc) := by rw [cell_of_row _ _ _ _ _ _ H2.out.2]; rfl
        have e3 : w2'.cell? ⟨A, 3, none⟩ = some (.bool sh) := by rw [cell_of_row _ _ _ _ _ _ H2.out.2]; rfl
        have FU : Box _ := ⟨full_any w2' xa xl xc X (HX.out.1.below H2.out.1.st.bl) HX.out.2 sh⟩
        obtain ⟨D, hD⟩ : ∃ D, fl X (shn sh) = D := ⟨_, rfl⟩
        have HD : Box (D.length = shn sh ∧ Byt D ∧ fl X (shn sh) = D) := ⟨by rw [← hD]; exact length_fl _ _, by rw [← hD]; exact byt_fl _ _ HX.out.1.2.1, hD⟩
        clear hD
        go_upto_region 11 with (go_at_call 10; refine FU.out.mono ?_; rintro e w3 ⟨⟨S, rfl, _, hf3⟩, hb3⟩; rw [HD.out.2.2] at hf3; have H3 : Box (Py w w3 C G n rv L k ∧ B8 w3 S D ∧ w3.heap[A]? = some (.cells (ac kd bl xa xl xc sh).toArray 32 (0, 0))) := ⟨H2.out.1.below hb3, ⟨hf3, HD.out.2.1⟩, (hb3.block A (Array.getElem?_eq_some_iff.1 H2.out.2).1).trans H2.out.2⟩; clear hf3 hb3 FU)
        clear e2 e3 H2 HX
        obtain ⟨ra, rc_, hrv, _, _⟩ := H3.out.1.rr.form
        subst hrv
        have d0 : w3.cell? ⟨A, 0, none⟩ = some (.int .i64 kd) := by rw [cell_of_row _ _ _ _ _ _ H3.out.2.2]; rfl
        have d1 : w3.cell? ⟨A, 1, none⟩ = some (.int .u64 bl) := by rw [cell_of_row _ _ _ _ _ _ H3.out.2.2]; rfl
        have d2 : w3.cell? ⟨A, 2, none⟩ = some (.slice xa xl xc) := by rw [cell_of_row _ _ _ _ _ _ H3.out.2.2]; rfl
        have d3 : w3.cell? ⟨A, 3, none⟩ = some (.bool sh) := by rw [cell_of_row _ _ _ _ _ _ H3.out.2.2]; rfl
        have hsh := shn_le sh
        go_upto_block 2 with fail
        obtain ⟨z, hz⟩ : ∃ z, bits .and .i64 kd 7 = z := ⟨_, rfl⟩
        rw [hz]
        clear hz
        go_cut [11] from 38 to 193 (fun v wx => v = .bool true ∧ Box (∃ rv' L', Py w wx C G n rv' L' (k + 1)))
        case first =>
          by_cases z0 : z = 0 ∨ z = 1
          · have q1 : Box (z = 0 ∨ z = 1) := ⟨z0⟩
            rcases z0 with rfl | rfl
            · as_aux_lemma =>
                have CC : Box _ := ⟨put_all w w3 C n L H3.out.1.st k H3.out.1.bd (by omega) bl HU.out S (shn sh) D H3.out.2.1 (shn sh) HD.out.1⟩
                go_upto_region 20 with (go_at_call 11; refine CC.out.mono ?_; rintro e w4 ⟨er, L2, rfl, hp, hs4, f4⟩; have H4 : Box (St w w4 C n L2 ∧ PutR n L bl D er L2 ∧ RRow w4 (.slice ra L.length rc_) L ∧ w4.heap[G]? = some (.cells #[.int .i64 n, .slice ra L.length rc_] 28 (0, 0)) ∧ B8 w4 S D ∧ w4.heap[A]? = some (.cells (ac kd bl xa xl xc sh).toArray 32 (0, 0))) := ⟨hs4, hp, H3.out.1.rr.fr f4, g_fr H3.out.1.g f4, H3.out.2.1.fr f4, f4.row H3.out.2.2 (by decide) (by decide)⟩; clear hp hs4 f4 CC)
                clear d0 d1 d2 d3
                have d1 : w4.cell? ⟨A, 1, none⟩ = some (.int .u64 bl) := by rw [cell_of_row _ _ _ _ _ _ H4.out.2.2.2.2.2]; rfl
                have HG4 : Box (w4.rangeAt G 0 [.int .i64 n, .slice ra L.length rc_]) := ⟨range_arr H4.out.2.2.2.1 _ (fun j v hv => by simpa using hv)⟩
                have RC : Box _ := ⟨rput_all w4 n _ L L2 H4.out.2.2.1 k H3.out.1.bd (by omega) bl D er H4.out.2.1⟩
                go_upto_region 21 with (first
                  | (refine atLoad _ ?_; refine wpList_load_mid rfl 28 _ rfl G 0 rfl [.int .i64 n, .slice ra L.length rc_] _ HG4.out Try.underlying28 rfl sizeC ?_)
                  | (refine atConv _ _ ?_; refine wpList_run rfl _ _ (exec_conv _ rfl rfl (by have hq := H4.out.2.2.2.2.1.bytes; rw [HD.out.1] at hq; exact hq)) ?_)
                  | (go_at_call 12; refine RC.out.mono ?_; rintro e w5 ⟨rv5, rfl, hq5⟩; obtain ⟨a5, c5, rfl, _, _⟩ := hq5.1.form; have H5 : Box (St w w5 C n L2 ∧ RRow w5 (.slice a5 L2.length c5) L2 ∧ w5.heap[G]? = some (.cells #[.int .i64 n, .slice ra L.length rc_] 28 (0, 0))) := ⟨H4.out.1.below hq5.2, hq5.1, (hq5.2.block G (Array.getElem?_eq_some_iff.1 H4.out.2.2.2.1).1).trans H4.out.2.2.2.1⟩; obtain ⟨Z, hZ⟩ : ∃ Z, w5.heap.size = Z := ⟨_, rfl⟩; have HZ : Box _ := ⟨new_C w5 n (.slice a5 L2.length c5) Z hZ⟩; clear hq5 RC)
                  | (refine atAlloc _ ?_; refine wpList_run rfl _ _ (exec_alloc 28 rfl _ zeroC) ?_)
                  | (refine atStore _ ?_; (try simp only [hZ]); refine wpList_store_mid rfl 28 _ _ rfl Z 0 #[.int .i64 n, .slice a5 L2.length c5] rfl rfl HZ.out.2.2 sizeC (by simp [Value.oneCell']) ?_))
                (try simp only [hZ])
                have H6 : Box (St w ((w5.alloc (.cells #[.int .i64 0, .slice none 0 0] 28)).setCells Z 0 [.int .i64 n, .slice a5 L2.length c5]) C n L2 ∧ RRow ((w5.alloc (.cells #[.int .i64 0, .slice none 0 0] 28)).setCells Z 0 [.int .i64 n, .slice a5 L2.length c5]) (.slice a5 L2.length c5) L2 ∧ ((w5.alloc (.cells #[.int .i64 0, .slice none 0 0] 28)).setCells Z 0 [.int .i64 n, .slice a5 L2.length c5]).heap[G]? = some (.cells #[.int .i64 n, .slice ra L.length rc_] 28 (0, 0)) ∧ ((w5.alloc (.cells #[.int .i64 0, .slice none 0 0] 28)).setCells Z 0 [.int .i64 n, .slice a5 L2.length c5]).rangeAt Z 0 [.int .i64 n, .slice a5 L2.length c5]) := ⟨H5.out.1.below HZ.out.1, H5.out.2.1.below HZ.out.1, (HZ.out.1.block G (Array.getElem?_eq_some_iff.1 H5.out.2.2).1).trans H5.out.2.2, HZ.out.2.1⟩
                clear hZ HZ H5 d1 HG4
                generalize (w5.alloc (.cells #[.int .i64 0, .slice none 0 0] 28)).setCells Z 0 [.int .i64 n, .slice a5 L2.length c5] = w6 at H6 ⊢
                have HT : Box (w6.there G 0 2 ∧ Py w (w6.setCells G 0 [.int .i64 n, .slice a5 L2.length c5]) C G n (.slice a5 L2.length c5) L2 (k + 1)) := ⟨there_row H6.out.2.2.1 (Nat.le_refl _), Py.next H6.out.1 H6.out.2.2.1 H6.out.2.1 (H4.out.2.1.bd H3.out.1.bd) H3.out.1.lo⟩
                go_upto_region 22 with (first
                  | (refine atLoad _ ?_; refine wpList_load_mid rfl 28 _ rfl Z 0 rfl [.int .i64 n, .slice a5 L2.length c5] _ H6.out.2.2.2 Try.underlying28 rfl sizeC ?_)
                  | (refine atStore _ ?_; refine wpList_store_mid rfl 28 _ _ rfl G 0 #[.int .i64 n, .slice a5 L2.length c5] rfl rfl HT.out.1 sizeC (by simp [Value.oneCell']) ?_))
                generalize w6.setCells G 0 #[.int .i64 n, .slice a5 L2.length c5].toList = w7 at HT ⊢
                clear H6 H4 H3
                have hq1 : (er == er) = true := by simp
                go_wp2
                go_meet
                exact ⟨rfl, ⟨_, _, HT.out.2⟩⟩
            · as_aux_lemma =>
                have CC : Box _ := ⟨put_all w w3 C n L H3.out.1.st k H3.out.1.bd (by omega) bl HU.out S (shn sh) D H3.out.2.1 (shn sh) HD.out.1⟩
                go_upto_region 20 with (go_at_call 11; refine CC.out.mono ?_; rintro e w4 ⟨er, L2, rfl, hp, hs4, f4⟩; have H4 : Box (St w w4 C n L2 ∧ PutR n L bl D er L2 ∧ RRow w4 (.slice ra L.length rc_) L ∧ w4.heap[G]? = some (.cells #[.int .i64 n, .slice ra L.length rc_] 28 (0, 0)) ∧ B8 w4 S D ∧ w4.heap[A]? = some (.cells (ac kd bl xa xl xc sh).toArray 32 (0, 0))) := ⟨hs4, hp, H3.out.1.rr.fr f4, g_fr H3.out.1.g f4, H3.out.2.1.fr f4, f4.row H3.out.2.2 (by decide) (by decide)⟩; clear hp hs4 f4 CC)
                clear d0 d1 d2 d3
                have d1 : w4.cell? ⟨A, 1, none⟩ = some (.int .u64 bl) := by rw [cell_of_row _ _ _ _ _ _ H4.out.2.2.2.2.2]; rfl
                have HG4 : Box (w4.rangeAt G 0 [.int .i64 n, .slice ra L.length rc_]) := ⟨range_arr H4.out.2.2.2.1 _ (fun j v hv => by simpa using hv)⟩
                have RC : Box _ := ⟨rput_all w4 n _ L L2 H4.out.2.2.1 k H3.out.1.bd (by omega) bl D er H4.out.2.1⟩
                go_upto_region 21 with (first
                  | (refine atLoad _ ?_; refine wpList_load_mid rfl 28 _ rfl G 0 rfl [.int .i64 n, .slice ra L.length rc_] _ HG4.out Try.underlying28 rfl sizeC ?_)
                  | (refine atConv _ _ ?_; refine wpList_run rfl _ _ (exec_conv _ rfl rfl (by have hq := H4.out.2.2.2.2.1.bytes; rw [HD.out.1] at hq; exact hq)) ?_)
                  | (go_at_call 12; refine RC.out.mono ?_; rintro e w5 ⟨rv5, rfl, hq5⟩; obtain ⟨a5, c5, rfl, _, _⟩ := hq5.1.form; have H5 : Box (St w w5 C n L2 ∧ RRow w5 (.slice a5 L2.length c5) L2 ∧ w5.heap[G]? = some (.cells #[.int .i64 n, .slice ra L.length rc_] 28 (0, 0))) := ⟨H4.out.1.below hq5.2, hq5.1, (hq5.2.block G (Array.getElem?_eq_some_iff.1 H4.out.2.2.2.1).1).trans H4.out.2.2.2.1⟩; obtain ⟨Z, hZ⟩ : ∃ Z, w5.heap.size = Z := ⟨_, rfl⟩; have HZ : Box _ := ⟨new_C w5 n (.slice a5 L2.length c5) Z hZ⟩; clear hq5 RC)
                  | (refine atAlloc _ ?_; refine wpList_run rfl _ _ (exec_alloc 28 rfl _ zeroC) ?_)
                  | (refine atStore _ ?_; (try simp only [hZ]); refine wpList_store_mid rfl 28 _ _ rfl Z 0 #[.int .i64 n, .slice a5 L2.length c5] rfl rfl HZ.out.2.2 sizeC (by simp [Value.oneCell']) ?_))
                (try simp only [hZ])
                have H6 : Box (St w ((w5.alloc (.cells #[.int .i64 0, .slice none 0 0] 28)).setCells Z 0 [.int .i64 n, .slice a5 L2.length c5]) C n L2 ∧ RRow ((w5.alloc (.cells #[.int .i64 0, .slice none 0 0] 28)).setCells Z 0 [.int .i64 n, .slice a5 L2.length c5]) (.slice a5 L2.length c5) L2 ∧ ((w5.alloc (.cells #[.int .i64 0, .slice none 0 0] 28)).setCells Z 0 [.int .i64 n, .slice a5 L2.length c5]).heap[G]? = some (.cells #[.int .i64 n, .slice ra L.length rc_] 28 (0, 0)) ∧ ((w5.alloc (.cells #[.int .i64 0, .slice none 0 0] 28)).setCells Z 0 [.int .i64 n, .slice a5 L2.length c5]).rangeAt Z 0 [.int .i64 n, .slice a5 L2.length c5]) := ⟨H5.out.1.below HZ.out.1, H5.out.2.1.below HZ.out.1, (HZ.out.1.block G (Array.getElem?_eq_some_iff.1 H5.out.2.2).1).trans H5.out.2.2, HZ.out.2.1⟩
                clear hZ HZ H5 d1 HG4
                generalize (w5.alloc (.cells #[.int .i64 0, .slice none 0 0] 28)).setCells Z 0 [.int .i64 n, .slice a5 L2.length c5] = w6 at H6 ⊢
                have HT : Box (w6.there G 0 2 ∧ Py w (w6.setCells G 0 [.int .i64 n, .slice a5 L2.length c5]) C G n (.slice a5 L2.length c5) L2 (k + 1)) := ⟨there_row H6.out.2.2.1 (Nat.le_refl _), Py.next H6.out.1 H6.out.2.2.1 H6.out.2.1 (H4.out.2.1.bd H3.out.1.bd) H3.out.1.lo⟩
                go_upto_region 22 with (first
                  | (refine atLoad _ ?_; refine wpList_load_mid rfl 28 _ rfl Z 0 rfl [.int .i64 n, .slice a5 L2.length c5] _ H6.out.2.2.2 Try.underlying28 rfl sizeC ?_)
                  | (refine atStore _ ?_; refine wpList_store_mid rfl 28 _ _ rfl G 0 #[.int .i64 n, .slice a5 L2.length c5] rfl rfl HT.out.1 sizeC (by simp [Value.oneCell']) ?_))
                generalize w6.setCells G 0 #[.int .i64 n, .slice a5 L2.length c5].toList = w7 at HT ⊢
                clear H6 H4 H3
                have hq1 : (er == er) = true := by simp
                go_wp2
                go_meet
                exact ⟨rfl, ⟨_, _, HT.out.2⟩⟩
          · by_cases z2 : z = 2 ∨ z = 3
            · rcases z2 with rfl | rfl
              · as_aux_lemma =>
                  have CC : Box _ := ⟨get_all w w3 C n L H3.out.1.st bl⟩
                  go_upto_region 26 with (go_at_call 13; refine CC.out.mono ?_; rintro e w4 ⟨xa2, xl2, xc2, ok, s, L2, rfl, hp, hby, hok8, hs4, f4⟩; have H4 : Box (St w w4 C n L2 ∧ GetR L bl ok s L2 ∧ RRow w4 (.slice ra L.length rc_) L ∧ w4.heap[G]? = some (.cells #[.int .i64 n, .slice ra L.length rc_] 28 (0, 0)) ∧ B8 w4 S D ∧ w4.heap[A]? = some (.cells (ac kd bl xa xl xc sh).toArray 32 (0, 0))) := ⟨hs4, hp, H3.out.1.rr.fr f4, g_fr H3.out.1.g f4, H3.out.2.1.fr f4, f4.row H3.out.2.2 (by decide) (by decide)⟩; have HY : Box (Bytes w4 xa2 xl2 s ∧ Ok8 w4 xa2) := ⟨hby, hok8⟩; clear hby hok8; clear hp hs4 f4 CC)
                  clear d0 d1 d2 d3
                  have d1 : w4.cell? ⟨A, 1, none⟩ = some (.int .u64 bl) := by rw [cell_of_row _ _ _ _ _ _ H4.out.2.2.2.2.2]; rfl
                  have HG4 : Box (w4.rangeAt G 0 [.int .i64 n, .slice ra L.length rc_]) := ⟨range_arr H4.out.2.2.2.1 _ (fun j v hv => by simpa using hv)⟩
                  have RC : Box _ := ⟨rget_all w4 n _ L L2 H4.out.2.2.1 (by have := H3.out.1.bd.len; omega) bl ok s H4.out.2.1⟩
                  go_upto_region 27 with (first
                    | (refine atLoad _ ?_; refine wpList_load_mid rfl 28 _ rfl G 0 rfl [.int .i64 n, .slice ra L.length rc_] _ HG4.out Try.underlying28 rfl sizeC ?_)
                    | (go_at_call 14; refine RC.out.mono ?_; rintro e w5 ⟨rv5, rfl, hq5⟩; obtain ⟨a5, c5, rfl, _, _⟩ := hq5.1.form; have H5 : Box (St w w5 C n L2 ∧ RRow w5 (.slice a5 L2.length c5) L2 ∧ w5.heap[G]? = some (.cells #[.int .i64 n, .slice ra L.length rc_] 28 (0, 0))) := ⟨H4.out.1.below hq5.2, hq5.1, (hq5.2.block G (Array.getElem?_eq_some_iff.1 H4.out.2.2.2.1).1).trans H4.out.2.2.2.1⟩; have HY5 : Box (Bytes w5 xa2 xl2 s) := ⟨HY.out.1.below hq5.2⟩; obtain ⟨Z, hZ⟩ : ∃ Z, w5.heap.size = Z := ⟨_, rfl⟩; have HZ : Box _ := ⟨new_C w5 n (.slice a5 L2.length c5) Z hZ⟩; clear hq5 RC)
                    | (refine atAlloc _ ?_; refine wpList_run rfl _ _ (exec_alloc 28 rfl _ zeroC) ?_)
                    | (refine atStore _ ?_; (try simp only [hZ]); refine wpList_store_mid rfl 28 _ _ rfl Z 0 #[.int .i64 n, .slice a5 L2.length c5] rfl rfl HZ.out.2.2 sizeC (by simp [Value.oneCell']) ?_))
                  (try simp only [hZ])
                  have H6 : Box (St w ((w5.alloc (.cells #[.int .i64 0, .slice none 0 0] 28)).setCells Z 0 [.int .i64 n, .slice a5 L2.length c5]) C n L2 ∧ RRow ((w5.alloc (.cells #[.int .i64 0, .slice none 0 0] 28)).setCells Z 0 [.int .i64 n, .slice a5 L2.length c5]) (.slice a5 L2.length c5) L2 ∧ ((w5.alloc (.cells #[.int .i64 0, .slice none 0 0] 28)).setCells Z 0 [.int .i64 n, .slice a5 L2.length c5]).heap[G]? = some (.cells #[.int .i64 n, .slice ra L.length rc_] 28 (0, 0)) ∧ ((w5.alloc (.cells #[.int .i64 0, .slice none 0 0] 28)).setCells Z 0 [.int .i64 n, .slice a5 L2.length c5]).rangeAt Z 0 [.int .i64 n, .slice a5 L2.length c5]) := ⟨H5.out.1.below HZ.out.1, H5.out.2.1.below HZ.out.1, (HZ.out.1.block G (Array.getElem?_eq_some_iff.1 H5.out.2.2).1).trans H5.out.2.2, HZ.out.2.1⟩
                  have HY6 : Box (Bytes ((w5.alloc (.cells #[.int .i64 0, .slice none 0 0] 28)).setCells Z 0 [.int .i64 n, .slice a5 L2.length c5]) xa2 xl2 s ∧ Z ≠ G ∧ Ok8 w4 xa2) := ⟨HY5.out.below HZ.out.1, fun e => by have := (Array.getElem?_eq_some_iff.1 H5.out.2.2).1; omega, HY.out.2⟩
                  clear hZ HZ H5 d1 HG4 HY HY5
                  generalize (w5.alloc (.cells #[.int .i64 0, .slice none 0 0] 28)).setCells Z 0 [.int .i64 n, .slice a5 L2.length c5] = w6 at H6 HY6 ⊢
                  have HT : Box (w6.there G 0 2 ∧ Py w (w6.setCells G 0 [.int .i64 n, .slice a5 L2.length c5]) C G n (.slice a5 L2.length c5) L2 (k + 1)) := ⟨there_row H6.out.2.2.1 (Nat.le_refl _), Py.next H6.out.1 H6.out.2.2.1 H6.out.2.1 (H4.out.2.1.bd H3.out.1.bd) H3.out.1.lo⟩
                  have HY7 : Box (Bytes (w6.setCells G 0 [.int .i64 n, .slice a5 L2.length c5]) xa2 xl2 s) := ⟨bytes_setC H6.out.2.2.1 HY6.out.1⟩
                  go_upto_region 28 with (first
                    | (refine atLoad _ ?_; refine wpList_load_mid rfl 28 _ rfl Z 0 rfl [.int .i64 n, .slice a5 L2.length c5] _ H6.out.2.2.2 Try.underlying28 rfl sizeC ?_)
                    | (refine atStore _ ?_; refine wpList_store_mid rfl 28 _ _ rfl G 0 #[.int .i64 n, .slice a5 L2.length c5] rfl rfl HT.out.1 sizeC (by simp [Value.oneCell']) ?_))
                  generalize w6.setCells G 0 #[.int .i64 n, .slice a5 L2.length c5].toList = w7 at HT HY7 ⊢
                  clear H6 H4 H3 HY6
                  have hq1 : ((strOfNums s).toList == (strOfNums s).toList) = true := by simp
                  cases ok
                  · go_wp2_with (refine atConv _ _ ?_; refine wpList_run rfl _ _ (exec_conv _ rfl rfl HY7.out) ?_)
                    go_meet
                    exact ⟨rfl, ⟨_, _, HT.out.2⟩⟩
                  · go_wp2_with (refine atConv _ _ ?_; refine wpList_run rfl _ _ (exec_conv _ rfl rfl HY7.out) ?_)
                    go_meet
                    exact ⟨rfl, ⟨_, _, HT.out.2⟩⟩
              · as_aux_lemma =>
                  have CC : Box _ := ⟨get_all w w3 C n L H3.out.1.st bl⟩
                  go_upto_region 26 with (go_at_call 13; refine CC.out.mono ?_; rintro e w4 ⟨xa2, xl2, xc2, ok, s, L2, rfl, hp, hby, hok8, hs4, f4⟩; have H4 : Box (St w w4 C n L2 ∧ GetR L bl ok s L2 ∧ RRow w4 (.slice ra L.length rc_) L ∧ w4.heap[G]? = some (.cells #[.int .i64 n, .slice ra L.length rc_] 28 (0, 0)) ∧ B8 w4 S D ∧ w4.heap[A]? = some (.cells (ac kd bl xa xl xc sh).toArray 32 (0, 0))) := ⟨hs4, hp, H3.out.1.rr.fr f4, g_fr H3.out.1.g f4, H3.out.2.1.fr f4, f4.row H3.out.2.2 (by decide) (by decide)⟩; have HY : Box (Bytes w4 xa2 xl2 s ∧ Ok8 w4 xa2) := ⟨hby, hok8⟩; clear hby hok8; clear hp hs4 f4 CC)
                  clear d0 d1 d2 d3
                  have d1 : w4.cell? ⟨A, 1, none⟩ = some (.int .u64 bl) := by rw [cell_of_row _ _ _ _ _ _ H4.out.2.2.2.2.2]; rfl
                  have HG4 : Box (w4.rangeAt G 0 [.int .i64 n, .slice ra L.length rc_]) := ⟨range_arr H4.out.2.2.2.1 _ (fun j v hv => by simpa using hv)⟩
                  have RC : Box _ := ⟨rget_all w4 n _ L L2 H4.out.2.2.1 (by have := H3.out.1.bd.len; omega) bl ok s H4.out.2.1⟩
                  go_upto_region 27 with (first
                    | (refine atLoad _ ?_; refine wpList_load_mid rfl 28 _ rfl G 0 rfl [.int .i64 n, .slice ra L.length rc_] _ HG4.out Try.underlying28 rfl sizeC ?_)
                    | (go_at_call 14; refine RC.out.mono ?_; rintro e w5 ⟨rv5, rfl, hq5⟩; obtain ⟨a5, c5, rfl, _, _⟩ := hq5.1.form; have H5 : Box (St w w5 C n L2 ∧ RRow w5 (.slice a5 L2.length c5) L2 ∧ w5.heap[G]? = some (.cells #[.int .i64 n, .slice ra L.length rc_] 28 (0, 0))) := ⟨H4.out.1.below hq5.2, hq5.1, (hq5.2.block G (Array.getElem?_eq_some_iff.1 H4.out.2.2.2.1).1).trans H4.out.2.2.2.1⟩; have HY5 : Box (Bytes w5 xa2 xl2 s) := ⟨HY.out.1.below hq5.2⟩; obtain ⟨Z, hZ⟩ : ∃ Z, w5.heap.size = Z := ⟨_, rfl⟩; have HZ : Box _ := ⟨new_C w5 n (.slice a5 L2.length c5) Z hZ⟩; clear hq5 RC)
                    | (refine atAlloc _ ?_; refine wpList_run rfl _ _ (exec_alloc 28 rfl _ zeroC) ?_)
                    | (refine atStore _ ?_; (try simp only [hZ]); refine wpList_store_mid rfl 28 _ _ rfl Z 0 #[.int .i64 n, .slice a5 L2.length c5] rfl rfl HZ.out.2.2 sizeC (by simp [Value.oneCell']) ?_))
                  (try simp only [hZ])
                  have H6 : Box (St w ((w5.alloc (.cells #[.int .i64 0, .slice none 0 0] 28)).setCells Z 0 [.int .i64 n, .slice a5 L2.length c5]) C n L2 ∧ RRow ((w5.alloc (.cells #[.int .i64 0, .slice none 0 0] 28)).setCells Z 0 [.int .i64 n, .slice a5 L2.length c5]) (.slice a5 L2.length c5) L2 ∧ ((w5.alloc (.cells #[.int .i64 0, .slice none 0 0] 28)).setCells Z 0 [.int .i64 n, .slice a5 L2.length c5]).heap[G]? = some (.cells #[.int .i64 n, .slice ra L.length rc_] 28 (0, 0)) ∧ ((w5.alloc (.cells #[.int .i64 0, .slice none 0 0] 28)).setCells Z 0 [.int .i64 n, .slice a5 L2.length c5]).rangeAt Z 0 [.int .i64 n, .slice a5 L2.length c5]) := ⟨H5.out.1.below HZ.out.1, H5.out.2.1.below HZ.out.1, (HZ.out.1.block G (Array.getElem?_eq_some_iff.1 H5.out.2.2).1).trans H5.out.2.2, HZ.out.2.1⟩
                  have HY6 : Box (Bytes ((w5.alloc (.cells #[.int .i64 0, .slice none 0 0] 28)).setCells Z 0 [.int .i64 n, .slice a5 L2.length c5]) xa2 xl2 s ∧ Z ≠ G ∧ Ok8 w4 xa2) := ⟨HY5.out.below HZ.out.1, fun e => by have := (Array.getElem?_eq_some_iff.1 H5.out.2.2).1; omega, HY.out.2⟩
                  clear hZ HZ H5 d1 HG4 HY HY5
                  generalize (w5.alloc (.cells #[.int .i64 0, .slice none 0 0] 28)).setCells Z 0 [.int .i64 n, .slice a5 L2.length c5] = w6 at H6 HY6 ⊢
                  have HT : Box (w6.there G 0 2 ∧ Py w (w6.setCells G 0 [.int .i64 n, .slice a5 L2.length c5]) C G n (.slice a5 L2.length c5) L2 (k + 1)) := ⟨there_row H6.out.2.2.1 (Nat.le_refl _), Py.next H6.out.1 H6.out.2.2.1 H6.out.2.1 (H4.out.2.1.bd H3.out.1.bd) H3.out.1.lo⟩
                  have HY7 : Box (Bytes (w6.setCells G 0 [.int .i64 n, .slice a5 L2.length c5]) xa2 xl2 s) := ⟨bytes_setC H6.out.2.2.1 HY6.out.1⟩
                  go_upto_region 28 with (first
                    | (refine atLoad _ ?_; refine wpList_load_mid rfl 28 _ rfl Z 0 rfl [.int .i64 n, .slice a5 L2.length c5] _ H6.out.2.2.2 Try.underlying28 rfl sizeC ?_)
                    | (refine atStore _ ?_; refine wpList_store_mid rfl 28 _ _ rfl G 0 #[.int .i64 n, .slice a5 L2.length c5] rfl rfl HT.out.1 sizeC (by simp [Value.oneCell']) ?_))
                  generalize w6.setCells G 0 #[.int .i64 n, .slice a5 L2.length c5].toList = w7 at HT HY7 ⊢
                  clear H6 H4 H3 HY6
                  have hq1 : ((strOfNums s).toList == (strOfNums s).toList) = true := by simp
                  cases ok
                  · go_wp2_with (refine atConv _ _ ?_; refine wpList_run rfl _ _ (exec_conv _ rfl rfl HY7.out) ?_)
                    go_meet
                    exact ⟨rfl, ⟨_, _, HT.out.2⟩⟩
                  · go_wp2_with (refine atConv _ _ ?_; refine wpList_run rfl _ _ (exec_conv _ rfl rfl HY7.out) ?_)
                    go_meet
                    exact ⟨rfl, ⟨_, _, HT.out.2⟩⟩
            · have b0 : (z == 0) = false := by simp; omega
              have b1 : (z == 1) = false := by simp; omega
              have b2 : (z == 2) = false := by simp; omega
              have b3 : (z == 3) = false := by simp; omega
              clear z0 z2
              by_cases z4 : z = 4
              · subst z4
                as_aux_lemma =>
                  have CC : Box _ := ⟨pin_all w w3 C n L H3.out.1.st k H3.out.1.bd (by omega) bl⟩
                  go_upto_region 31 with (go_at_call 15; refine CC.out.mono ?_; rintro e w4 ⟨ok, L2, rfl, hp, hs4, f4⟩; have H4 : Box (St w w4 C n L2 ∧ HoldR 1 L bl ok L2 ∧ RRow w4 (.slice ra L.length rc_) L ∧ w4.heap[G]? = some (.cells #[.int .i64 n, .slice ra L.length rc_] 28 (0, 0)) ∧ B8 w4 S D ∧ w4.heap[A]? = some (.cells (ac kd bl xa xl xc sh).toArray 32 (0, 0))) := ⟨hs4, hp, H3.out.1.rr.fr f4, g_fr H3.out.1.g f4, H3.out.2.1.fr f4, f4.row H3.out.2.2 (by decide) (by decide)⟩; clear hp hs4 f4 CC)
                  clear d0 d1 d2 d3
                  have d1 : w4.cell? ⟨A, 1, none⟩ = some (.int .u64 bl) := by rw [cell_of_row _ _ _ _ _ _ H4.out.2.2.2.2.2]; rfl
                  have HG4 : Box (w4.rangeAt G 0 [.int .i64 n, .slice ra L.length rc_]) := ⟨range_arr H4.out.2.2.2.1 _ (fun j v hv => by simpa using hv)⟩
                  have RC : Box _ := ⟨rhold_all w4 n _ L L2 H4.out.2.2.1 k H3.out.1.bd (by omega) bl 1 (by omega) ok H4.out.2.1⟩
                  go_upto_region 32 with (first
                    | (refine atLoad _ ?_; refine wpList_load_mid rfl 28 _ rfl G 0 rfl [.int .i64 n, .slice ra L.length rc_] _ HG4.out Try.underlying28 rfl sizeC ?_)
                    | (go_at_call 16; refine RC.out.mono ?_; rintro e w5 ⟨rv5, rfl, hq5⟩; obtain ⟨a5, c5, rfl, _, _⟩ := hq5.1.form; have H5 : Box (St w w5 C n L2 ∧ RRow w5 (.slice a5 L2.length c5) L2 ∧ w5.heap[G]? = some (.cells #[.int .i64 n, .slice ra L.length rc_] 28 (0, 0))) := ⟨H4.out.1.below hq5.2, hq5.1, (hq5.2.block G (Array.getElem?_eq_some_iff.1 H4.out.2.2.2.1).1).trans H4.out.2.2.2.1⟩; obtain ⟨Z, hZ⟩ : ∃ Z, w5.heap.size = Z := ⟨_, rfl⟩; have HZ : Box _ := ⟨new_C w5 n (.slice a5 L2.length c5) Z hZ⟩; clear hq5 RC)
                    | (refine atAlloc _ ?_; refine wpList_run rfl _ _ (exec_alloc 28 rfl _ zeroC) ?_)
                    | (refine atStore _ ?_; (try simp only [hZ]); refine wpList_store_mid rfl 28 _ _ rfl Z 0 #[.int .i64 n, .slice a5 L2.length c5] rfl rfl HZ.out.2.2 sizeC (by simp [Value.oneCell']) ?_))
                  (try simp only [hZ])
                  have H6 : Box (St w ((w5.alloc (.cells #[.int .i64 0, .slice none 0 0] 28)).setCells Z 0 [.int .i64 n, .slice a5 L2.length c5]) C n L2 ∧ RRow ((w5.alloc (.cells #[.int .i64 0, .slice none 0 0] 28)).setCells Z 0 [.int .i64 n, .slice a5 L2.length c5]) (.slice a5 L2.length c5) L2 ∧ ((w5.alloc (.cells #[.int .i64 0, .slice none 0 0] 28)).setCells Z 0 [.int .i64 n, .slice a5 L2.length c5]).heap[G]? = some (.cells #[.int .i64 n, .slice ra L.length rc_] 28 (0, 0)) ∧ ((w5.alloc (.cells #[.int .i64 0, .slice none 0 0] 28)).setCells Z 0 [.int .i64 n, .slice a5 L2.length c5]).rangeAt Z 0 [.int .i64 n, .slice a5 L2.length c5]) := ⟨H5.out.1.below HZ.out.1, H5.out.2.1.below HZ.out.1, (HZ.out.1.block G (Array.getElem?_eq_some_iff.1 H5.out.2.2).1).trans H5.out.2.2, HZ.out.2.1⟩
                  clear hZ HZ H5 d1 HG4
                  generalize (w5.alloc (.cells #[.int .i64 0, .slice none 0 0] 28)).setCells Z 0 [.int .i64 n, .slice a5 L2.length c5] = w6 at H6 ⊢
                  have HT : Box (w6.there G 0 2 ∧ Py w (w6.setCells G 0 [.int .i64 n, .slice a5 L2.length c5]) C G n (.slice a5 L2.length c5) L2 (k + 1)) := ⟨there_row H6.out.2.2.1 (Nat.le_refl _), Py.next H6.out.1 H6.out.2.2.1 H6.out.2.1 (H4.out.2.1.bd H3.out.1.bd (by omega)) H3.out.1.lo⟩
                  go_upto_region 33 with (first
                    | (refine atLoad _ ?_; refine wpList_load_mid rfl 28 _ rfl Z 0 rfl [.int .i64 n, .slice a5 L2.length c5] _ H6.out.2.2.2 Try.underlying28 rfl sizeC ?_)
                    | (refine atStore _ ?_; refine wpList_store_mid rfl 28 _ _ rfl G 0 #[.int .i64 n, .slice a5 L2.length c5] rfl rfl HT.out.1 sizeC (by simp [Value.oneCell']) ?_))
                  generalize w6.setCells G 0 #[.int .i64 n, .slice a5 L2.length c5].toList = w7 at HT ⊢
                  clear H6 H4 H3
                  cases ok
                  · go_wp2
                    go_meet
                    exact ⟨rfl, ⟨_, _, HT.out.2⟩⟩
                  · go_wp2
                    go_meet
                    exact ⟨rfl, ⟨_, _, HT.out.2⟩⟩
              · have b4 : (z == 4) = false := by simpa using z4
                by_cases z5 : z = 5
                · subst z5
                  as_aux_lemma =>
                    have CC : Box _ := ⟨unpin_all w w3 C n L H3.out.1.st bl⟩
                    go_upto_region 36 with (go_at_call 17; refine CC.out.mono ?_; rintro e w4 ⟨ok, L2, rfl, hp, hs4, f4⟩; have H4 : Box (St w w4 C n L2 ∧ HoldR (-1) L bl ok L2 ∧ RRow w4 (.slice ra L.length rc_) L ∧ w4.heap[G]? = some (.cells #[.int .i64 n, .slice ra L.length rc_] 28 (0, 0)) ∧ B8 w4 S D ∧ w4.heap[A]? = some (.cells (ac kd bl xa xl xc sh).toArray 32 (0, 0))) := ⟨hs4, hp, H3.out.1.rr.fr f4, g_fr H3.out.1.g f4, H3.out.2.1.fr f4, f4.row H3.out.2.2 (by decide) (by decide)⟩; clear hp hs4 f4 CC)
                    clear d0 d1 d2 d3
                    have d1 : w4.cell? ⟨A, 1, none⟩ = some (.int .u64 bl) := by rw [cell_of_row _ _ _ _ _ _ H4.out.2.2.2.2.2]; rfl
                    have HG4 : Box (w4.rangeAt G 0 [.int .i64 n, .slice ra L.length rc_]) := ⟨range_arr H4.out.2.2.2.1 _ (fun j v hv => by simpa using hv)⟩
                    have RC : Box _ := ⟨rhold_all w4 n _ L L2 H4.out.2.2.1 k H3.out.1.bd (by omega) bl (-1) (by omega) ok H4.out.2.1⟩
                    go_upto_region 37 with (first
                      | (refine atLoad _ ?_; refine wpList_load_mid rfl 28 _ rfl G 0 rfl [.int .i64 n, .slice ra L.length rc_] _ HG4.out Try.underlying28 rfl sizeC ?_)
                      | (go_at_call 16; refine RC.out.mono ?_; rintro e w5 ⟨rv5, rfl, hq5⟩; obtain ⟨a5, c5, rfl, _, _⟩ := hq5.1.form; have H5 : Box (St w w5 C n L2 ∧ RRow w5 (.slice a5 L2.length c5) L2 ∧ w5.heap[G]? = some (.cells #[.int .i64 n, .slice ra L.length rc_] 28 (0, 0))) := ⟨H4.out.1.below hq5.2, hq5.1, (hq5.2.block G (Array.getElem?_eq_some_iff.1 H4.out.2.2.2.1).1).trans H4.out.2.2.2.1⟩; obtain ⟨Z, hZ⟩ : ∃ Z, w5.heap.size = Z := ⟨_, rfl⟩; have HZ : Box _ := ⟨new_C w5 n (.slice a5 L2.length c5) Z hZ⟩; clear hq5 RC)
                      | (refine atAlloc _ ?_; refine wpList_run rfl _ _ (exec_alloc 28 rfl _ zeroC) ?_)
                      | (refine atStore _ ?_; (try simp only [hZ]); refine wpList_store_mid rfl 28 _ _ rfl Z 0 #[.int .i64 n, .slice a5 L2.length c5] rfl rfl HZ.out.2.2 sizeC (by simp [Value.oneCell']) ?_))
                    (try simp only [hZ])
                    have H6 : Box (St w ((w5.alloc (.cells #[.int .i64 0, .slice none 0 0] 28)).setCells Z 0 [.int .i64 n, .slice a5 L2.length c5]) C n L2 ∧ RRow ((w5.alloc (.cells #[.int .i64 0, .slice none 0 0] 28)).setCells Z 0 [.int .i64 n, .slice a5 L2.length c5]) (.slice a5 L2.length c5) L2 ∧ ((w5.alloc (.cells #[.int .i64 0, .slice none 0 0] 28)).setCells Z 0 [.int .i64 n, .slice a5 L2.length c5]).heap[G]? = some (.cells #[.int .i64 n, .slice ra L.length rc_] 28 (0, 0)) ∧ ((w5.alloc (.cells #[.int .i64 0, .slice none 0 0] 28)).setCells Z 0 [.int .i64 n, .slice a5 L2.length c5]).rangeAt Z 0 [.int .i64 n, .slice a5 L2.length c5]) := ⟨H5.out.1.below HZ.out.1, H5.out.2.1.below HZ.out.1, (HZ.out.1.block G (Array.getElem?_eq_some_iff.1 H5.out.2.2).1).trans H5.out.2.2, HZ.out.2.1⟩
                    clear hZ HZ H5 d1 HG4
                    generalize (w5.alloc (.cells #[.int .i64 0, .slice none 0 0] 28)).setCells Z 0 [.int .i64 n, .slice a5 L2.length c5] = w6 at H6 ⊢
                    have HT : Box (w6.there G 0 2 ∧ Py w (w6.setCells G 0 [.int .i64 n, .slice a5 L2.length c5]) C G n (.slice a5 L2.length c5) L2 (k + 1)) := ⟨there_row H6.out.2.2.1 (Nat.le_refl _), Py.next H6.out.1 H6.out.2.2.1 H6.out.2.1 (H4.out.2.1.bd H3.out.1.bd (by omega)) H3.out.1.lo⟩
                    go_upto_region 38 with (first
                      | (refine atLoad _ ?_; refine wpList_load_mid rfl 28 _ rfl Z 0 rfl [.int .i64 n, .slice a5 L2.length c5] _ H6.out.2.2.2 Try.underlying28 rfl sizeC ?_)
                      | (refine atStore _ ?_; refine wpList_store_mid rfl 28 _ _ rfl G 0 #[.int .i64 n, .slice a5 L2.length c5] rfl rfl HT.out.1 sizeC (by simp [Value.oneCell']) ?_))
                    generalize w6.setCells G 0 #[.int .i64 n, .slice a5 L2.length c5].toList = w7 at HT ⊢
                    clear H6 H4 H3
                    cases ok
                    · go_wp2
                      go_meet
                      exact ⟨rfl, ⟨_, _, HT.out.2⟩⟩
                    · go_wp2
                      go_meet
                      exact ⟨rfl, ⟨_, _, HT.out.2⟩⟩
                · have b5 : (z == 5) = false := by simpa using z5
                  by_cases z6 : z = 6
                  · subst z6
                    as_aux_lemma =>
                      have CC : Box _ := ⟨drop_all w w3 C n L H3.out.1.st bl⟩
                      go_upto_region 41 with (go_at_call 18; refine CC.out.mono ?_; rintro e w4 ⟨ok, L2, rfl, hp, hs4, f4⟩; have H4 : Box (St w w4 C n L2 ∧ DropR L bl ok L2 ∧ RRow w4 (.slice ra L.length rc_) L ∧ w4.heap[G]? = some (.cells #[.int .i64 n, .slice ra L.length rc_] 28 (0, 0)) ∧ B8 w4 S D ∧ w4.heap[A]? = some (.cells (ac kd bl xa xl xc sh).toArray 32 (0, 0))) := ⟨hs4, hp, H3.out.1.rr.fr f4, g_fr H3.out.1.g f4, H3.out.2.1.fr f4, f4.row H3.out.2.2 (by decide) (by decide)⟩; clear hp hs4 f4 CC)
                      clear d0 d1 d2 d3
                      have d1 : w4.cell? ⟨A, 1, none⟩ = some (.int .u64 bl) := by rw [cell_of_row _ _ _ _ _ _ H4.out.2.2.2.2.2]; rfl
                      have HG4 : Box (w4.rangeAt G 0 [.int .i64 n, .slice ra L.length rc_]) := ⟨range_arr H4.out.2.2.2.1 _ (fun j v hv => by simpa using hv)⟩
                      have RC : Box _ := ⟨rdrop_all w4 n _ L L2 H4.out.2.2.1 (by have := H3.out.1.bd.len; omega) bl ok H4.out.2.1⟩
                      go_upto_region 42 with (first
                        | (refine atLoad _ ?_; refine wpList_load_mid rfl 28 _ rfl G 0 rfl [.int .i64 n, .slice ra L.length rc_] _ HG4.out Try.underlying28 rfl sizeC ?_)
                        | (go_at_call 19; refine RC.out.mono ?_; rintro e w5 ⟨rv5, rfl, hq5⟩; obtain ⟨a5, c5, rfl, _, _⟩ := hq5.1.form; have H5 : Box (St w w5 C n L2 ∧ RRow w5 (.slice a5 L2.length c5) L2 ∧ w5.heap[G]? = some (.cells #[.int .i64 n, .slice ra L.length rc_] 28 (0, 0))) := ⟨H4.out.1.below hq5.2, hq5.1, (hq5.2.block G (Array.getElem?_eq_some_iff.1 H4.out.2.2.2.1).1).trans H4.out.2.2.2.1⟩; obtain ⟨Z, hZ⟩ : ∃ Z, w5.heap.size = Z := ⟨_, rfl⟩; have HZ : Box _ := ⟨new_C w5 n (.slice a5 L2.length c5) Z hZ⟩; clear hq5 RC)
                        | (refine atAlloc _ ?_; refine wpList_run rfl _ _ (exec_alloc 28 rfl _ zeroC) ?_)
                        | (refine atStore _ ?_; (try simp only [hZ]); refine wpList_store_mid rfl 28 _ _ rfl Z 0 #[.int .i64 n, .slice a5 L2.length c5] rfl rfl HZ.out.2.2 sizeC (by simp [Value.oneCell']) ?_))
                      (try simp only [hZ])
                      have H6 : Box (St w ((w5.alloc (.cells #[.int .i64 0, .slice none 0 0] 28)).setCells Z 0 [.int .i64 n, .slice a5 L2.length c5]) C n L2 ∧ RRow ((w5.alloc (.cells #[.int .i64 0, .slice none 0 0] 28)).setCells Z 0 [.int .i64 n, .slice a5 L2.length c5]) (.slice a5 L2.length c5) L2 ∧ ((w5.alloc (.cells #[.int .i64 0, .slice none 0 0] 28)).setCells Z 0 [.int .i64 n, .slice a5 L2.length c5]).heap[G]? = some (.cells #[.int .i64 n, .slice ra L.length rc_] 28 (0, 0)) ∧ ((w5.alloc (.cells #[.int .i64 0, .slice none 0 0] 28)).setCells Z 0 [.int .i64 n, .slice a5 L2.length c5]).rangeAt Z 0 [.int .i64 n, .slice a5 L2.length c5]) := ⟨H5.out.1.below HZ.out.1, H5.out.2.1.below HZ.out.1, (HZ.out.1.block G (Array.getElem?_eq_some_iff.1 H5.out.2.2).1).trans H5.out.2.2, HZ.out.2.1⟩
                      clear hZ HZ H5 d1 HG4
                      generalize (w5.alloc (.cells #[.int .i64 0, .slice none 0 0] 28)).setCells Z 0 [.int .i64 n, .slice a5 L2.length c5] = w6 at H6 ⊢
                      have HT : Box (w6.there G 0 2 ∧ Py w (w6.setCells G 0 [.int .i64 n, .slice a5 L2.length c5]) C G n (.slice a5 L2.length c5) L2 (k + 1)) := ⟨there_row H6.out.2.2.1 (Nat.le_refl _), Py.next H6.out.1 H6.out.2.2.1 H6.out.2.1 (H4.out.2.1.bd H3.out.1.bd) H3.out.1.lo⟩
                      go_upto_region 43 with (first
                        | (refine atLoad _ ?_; refine wpList_load_mid rfl 28 _ rfl Z 0 rfl [.int .i64 n, .slice a5 L2.length c5] _ H6.out.2.2.2 Try.underlying28 rfl sizeC ?_)
                        | (refine atStore _ ?_; refine wpList_store_mid rfl 28 _ _ rfl G 0 #[.int .i64 n, .slice a5 L2.length c5] rfl rfl HT.out.1 sizeC (by simp [Value.oneCell']) ?_))
                      generalize w6.setCells G 0 #[.int .i64 n, .slice a5 L2.length c5].toList = w7 at HT ⊢
                      clear H6 H4 H3
                      cases ok
                      · go_wp2
                        go_meet
                        exact ⟨rfl, ⟨_, _, HT.out.2⟩⟩
                      · go_wp2
                        go_meet
                        exact ⟨rfl, ⟨_, _, HT.out.2⟩⟩
                  · have b6 : (z == 6) = false := by simpa using z6
                    clear z4 z5 z6
                    cases sh
                    · go_wp2
                      go_meet
                      exact ⟨rfl, ⟨_, _, H3.out.1.st, H3.out.1.g, H3.out.1.rr, H3.out.1.bd.up, H3.out.1.lo⟩⟩
                    · have CL : Box _ := ⟨clear_any w3 _ C n L H3.out.1.st.cc⟩
                      go_upto_region 15 with (go_at_call 20; refine CL.out.mono ?_; rintro e w4 ⟨rfl, hc4, f4⟩; have H4 : Box (St w w4 C n [] ∧ w4.heap[G]? = some (.cells #[.int .i64 n, .slice ra L.length rc_] 28 (0, 0))) := ⟨H3.out.1.st.fr f4 hc4, g_fr H3.out.1.g f4⟩; clear hc4 f4 CL)
                      have k1 : w4.cell? ⟨G, 1, none⟩ = some (.slice ra L.length rc_) := by rw [cell_of_row _ _ _ _ _ _ H4.out.2]; rfl
                      have f1 : w4.frozen? ⟨G, 1, none⟩ = false := frozen_of_row w4 G _ _ _ H4.out.2
                      have HN : Box (Py w (w4.setCell ⟨G, 1, none⟩ (.slice none 0 0)) C G n (.slice none 0 0) [] (k + 1)) := ⟨Py.nextB H4.out.1 H4.out.2 (RRow.nil _) ⟨Nat.zero_le _, (fun x hx => by simp at hx), (fun x hx => by simp at hx)⟩ H3.out.1.lo ((But.refl G w4).setCell 1 _) (heap_setCell_same w4 G 1 _ _ _ H4.out.2)⟩
                      clear d0 d1 d2 d3
                      go_wp2
                      go_meet
                      exact ⟨rfl, ⟨_, _, HN.out⟩⟩
        case rest =>
          as_aux_lemma =>
            obtain ⟨hv, H7⟩ := hcut
            subst hv
            obtain ⟨rv7, L7, hp7⟩ := H7.out
            obtain ⟨a7, c7, hrv7, _, _⟩ := hp7.rr.form
            subst hrv7
            have H8 : Box _ := ⟨hp7⟩
            have KB : Box _ := ⟨blocks_st w wc C n L7 hp7.st⟩
            clear hp7 H7 H3 d0 d1 d2 d3 HU HD
            go_upto_region 45 with (go_at_call 21; refine KB.out.mono ?_; rintro e w8 ⟨⟨S8, rfl, h8⟩, hs8, f8⟩; have H9 : Box (Py w w8 C G n (.slice a7 L7.length c7) L7 (k + 1) ∧ w8.heap[S8]? = some (.cells (u64s (L7.map (·.b))) 29 (0, 0))) := ⟨⟨hs8, g_fr H8.out.g f8, H8.out.rr.fr f8, H8.out.bd, H8.out.lo⟩, h8⟩; clear h8 hs8 f8 KB)
            have k1 : w8.cell? ⟨G, 1, none⟩ = some (.slice a7 L7.length c7) := by rw [cell_of_row _ _ _ _ _ _ H9.out.1.g]; rfl
            have hnn : ((L7.length : Int) != (L7.length : Int)) = false := by simp
            have hL60 : L7.length ≤ 60 := by have := H9.out.1.bd.len; omega
            go_upto_region 47 with fail
            clear k1
            go_wp2
            go_loopw [30] (fun j wr => ∃ q : Nat, q ≤ L7.length ∧ j = .int .i64 q ∧ Box (Py w wr C G n (.slice a7 L7.length c7) L7 (k + 1) ∧ wr.heap[S8]? = some (.cells (u64s (L7.map (·.b))) 29 (0, 0)))) (fun j _ => L7.length - (intOf j).toNat)
            case atStart => exact ⟨0, Nat.zero_le _, rfl, H9⟩
            case round =>
              clear H9 H8
              obtain ⟨q, hq, rfl, HJ⟩ := hrel
              by_cases hq2 : q < L7.length
              · obtain ⟨g7, hg7, _, hr7⟩ := HJ.out.1.rr.ways (by omega)
                subst hg7
                have r0 : wr.cell? ⟨g7, q * 3, none⟩ = some (.int .u64 L7[q].b) := hr7 q hq2 0 _ rfl
                have r1 : wr.cell? ⟨S8, q, none⟩ = some (.int .u64 L7[q].b) := by
                  rw [u64_at8 HJ.out.2 (by simpa using hq2)]
                  simp
                have r2 : wr.cell? ⟨G, 1, none⟩ = some (.slice (some ⟨g7, 0, none⟩) L7.length c7) := by rw [cell_of_row _ _ _ _ _ _ HJ.out.1.g]; rfl
                clear hr7
                generalize L7[q].b = bq at r0 r1
                have hnb : (bq != bq) = false := by simp
                obtain ⟨wz, hwz⟩ : ∃ wz, wz = wr := ⟨_, rfl⟩
                rw [← hwz] at r0 r1 r2 HJ ⊢
                clear hwz
                go_upto_region 50 with fail
                go_quiet (fail)
                have HJ2 : Box (Py w (wz.drewN nq) C G n (.slice (some ⟨g7, 0, none⟩) L7.length c7) L7 (k + 1) ∧ (wz.drewN nq).heap[S8]? = some (.cells (u64s (L7.map (·.b))) 29 (0, 0))) := ⟨HJ.out.1.below (below_drewN0 _ _), HJ.out.2⟩
                generalize wz.drewN nq = wy at HJ2 ⊢
                clear r0 r1 r2 HJ
                go_wp2
                exact ⟨⟨q + 1, by omega, by simp, HJ2⟩, by simp [intOf]; omega⟩
              · go_wp2
                exact ⟨⟨k + 1, by omega, by omega, by simp, ⟨_, _, HJ.out.1⟩⟩, by simp [intOf]; omega⟩
      · obtain ⟨rv, L, hpy⟩ := HI.out
        have HB : Box (Below w.heap.size w wr) := ⟨hpy.st.bl⟩
        clear hpy HI
        go_wp2
        go_ret
        exact ⟨rfl, HB.out⟩
    · obtain ⟨rv, L, hpy⟩ := HI.out
      have HB : Box (Below w.heap.size w wr) := ⟨hpy.st.bl⟩
      clear hpy HI
      go_wp2
      go_ret
      exact ⟨rfl, HB.out⟩
end Go.Proofs.Ythjfobcfdpogeaa
