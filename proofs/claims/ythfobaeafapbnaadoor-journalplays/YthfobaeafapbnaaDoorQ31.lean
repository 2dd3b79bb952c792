/-
 Of of package record where it refuses; the reference's Of and Changes. And what follows it.
-/
import Derived.Test.YthfobaeafapbnaaDoorQ30
import Derived.Test.YthfobaeafapbnaaDoorQ28
set_option linter.unusedVariables false
set_option maxRecDepth 100000
namespace Go.Proofs.YthfobaeafapbnaaDoor
open Go.RowKit Plain
theorem len_ofP (P : List (Int × List Int)) : (ofP P).length = P.length := by simp [ofP]
set_option maxRecDepth 20000 in
set_option maxHeartbeats 2000000 in
theorem of_bad (a : Option Addr) (cap : Nat) (M : List Im) (w : World) (h : Imgs w a M) (hl : M.length <= 1000) (h0 : 0 < M.length) (hall : ∃ m ∈ M, m.bl ≠ 160) (hmx : ∀ m ∈ M, m.bl <= 100000) :
  Calls Tryd.prog 35 #[.slice a M.length cap] w fun e w' => e = .returned (.tuple #[.slice none 0 0, .int .i64 1]) /\ Below w.heap.size w w' := by
 have HM : Box ((∀ x, Below w.heap.size w x -> Imgs x a M) /\ (∀ m ∈ M, m.bl <= 100000) /\ ∃ m ∈ M, m.bl ≠ 160) := ⟨fun x hx => h.below hx, hmx, hall⟩
 obtain ⟨b, o, rfl, hbl, hr⟩ := h.tb h0
 obtain ⟨n, hn⟩ : ∃ n, M.length = n := ⟨_, rfl⟩
 rw [hn] at hl h0 ⊢
 have HN : Box (M.length = n) := ⟨hn⟩
 have hz : ((n : Int) == 0) = false := by simp; omega
 have HMK : Box (40 * n <= 281474976710656 /\ n <= 9223372036854775807) := ⟨by omega, by omega⟩
 obtain ⟨g, hg⟩ : ∃ g, w.heap.size = g := ⟨_, rfl⟩
 obtain ⟨w1, hw1⟩ : ∃ w1, w.alloc (.cells ((List.replicate n zrc).map rcc).flatten.toArray 101) = w1 := ⟨_, rfl⟩
 have HK0 : Box (OfK w w1 M g n 0 []) := ⟨⟨by rw [<- hw1]; simp only [List.map_nil, List.nil_append, Nat.sub_zero]; exact al_at hg, rfl, by simp, fun m hm => by simp at hm, by rw [<- hw1]; exact (Below.refl _ _).alloc (Nat.le_refl _) _, Nat.le_of_eq hg⟩⟩
 have HMC : Box (w.alloc (.cells (madeCells #[.int .u64 0, .slice none 0 0, .bool false] (n * 3)) 101) = w1) := ⟨by rw [<- hw1, made_flat rcc 3 (fun _ => rfl) (by decide) zrc #[.int .u64 0, .slice none 0 0, .bool false] rfl n]⟩
 have HOK : Box (M.length = n /\ ∀ wr k Q, OfK w wr M g n k Q -> ∀ hk : k < M.length, wr.rangeAt b (o + k * 2) (imc M[k]) /\ Bytes wr M[k].ba M[k].bl M[k].bs /\ N64 M[k].blk /\ M[k].bl <= 100000 /\ b < wr.heap.size) := ⟨hn, fun wr k Q hK hk => by
  have hb := (HM.out.1 wr hK.bel).byt M[k] (List.getElem_mem hk)
  exact ⟨range_below hK.bel (hr k hk) hbl, hb.1, hb.2.1, HM.out.2.1 _ (List.getElem_mem hk), Nat.lt_of_lt_of_le hbl hK.bel.size⟩⟩
 clear h hall hmx hr hw1
 go_enter Tryd.func35, Tryd.ntmps35
 go_upto_region 4 with (refine atMake _ ?_; refine wpList_run rfl _ _ (exec_make 96 101 _ _ rfl _ 3 40 Tryd.underlying96 infRc n rfl rfl HMK.out.1 HMK.out.2) ?_)
 have hcz : (Value.agg #[.int .u64 0, .slice none 0 0, .bool false]).cells = #[.int .u64 0, .slice none 0 0, .bool false] := rfl
 (try simp only [HMC.out])
 clear hcz
 go_wp2
 go_loopw [15] (fun i wr => ∃ (k : Nat) (Q : List Im), k <= n /\ i = .int .i64 (k : Int) /\ Box (OfK w wr M g n k Q /\ ∀ i (hi : i < M.length), i < k -> M[i].bl = 160)) (fun i _ => n - (intOf i).toNat)
 case atStart => exact ⟨0, [], Nat.zero_le _, rfl, ⟨HK0.out, fun i hi h => by omega⟩⟩
 case round =>
  obtain ⟨k, Q, hk, rfl, HK⟩ := hrel
  by_cases hlt : k < n
  ·by_cases hgood : (M[k]'(by have := HN.out; omega)).bl = 160
   rotate_left
   ·have hlt1 : decide ((k : Int) < (n : Int)) = true := by simp; omega
    have hkm : k < M.length := by omega
    have hF := HOK.out.2 wr k Q HK.out.1 hkm
    have HST : Box (∀ wx m', Below wr.heap.size wr wx -> pl m' = pl M[k] -> OIm wx w.heap.size m' -> ∃ Q', OfK w (wx.setCells g (k * 3) (imc m')) M g n (k + 1) Q') := ⟨fun wx m' h1 h2 h3 => ⟨_, HK.out.1.step HOK.out.1 hlt h1 m' h2 h3⟩⟩
    obtain ⟨⟨blk, ba, bl, bc, bs⟩, hmm⟩ : ∃ m, M[k] = m := ⟨_, rfl⟩
    rw [hmm] at hF HST
    simp only at hF
    have HR : Box (wr.rangeAt b (o + k * 2) [.int .u64 blk, .slice ba bl bc]) := ⟨hF.1⟩
    have HF2 : Box (∀ x, Below wr.heap.size wr x -> Bytes x ba bl bs) := ⟨fun x hx => hF.2.1.below hx⟩
    have HF3 : Box (N64 blk /\ ¬ bl = 160) := ⟨hF.2.2.1, by rw [hmm] at hgood; exact hgood⟩
    have HROW : Box (∀ x, Below wr.heap.size wr x -> x.there g (k * 3) 2) := ⟨fun x hx => there_row ((hx.block g (Array.getElem?_eq_some_iff.1 HK.out.1.row).1).trans HK.out.1.row) (by
     have := flat_len rcc 3 (fun _ => rfl) (Q.map rf ++ List.replicate (n - k) zrc)
     simp only [List.length_append, List.length_map, List.length_replicate, HK.out.1.len] at this
     simp only [List.size_toArray]
     rw [this]
     omega)⟩
    have HBL : Box (w.heap.size <= wr.heap.size) := ⟨HK.out.1.bel.size⟩
    have HLT : Box (k < n) := ⟨hlt⟩
    have HWH : Box (((bl : Int) == 160) = false) := ⟨by simp; exact fun e => HF3.out.2 (by omega)⟩
    have hw4 : IntKind.i64.wrap ((k : Int) + 1) = ((k + 1 : Nat) : Int) := by rw [IntKind.wrap_i64]; omega
    clear hF hmm hkm hgood
    go_upto_region 7 with (first
     | (refine atIdx 50 ?_; refine wpList_run rfl _ _ (exec_idxT 50 65 Tryd.underlying50 2 infoIm _ _ rfl b o n cap k rfl rfl HLT.out) ?_)
     | (refine atLoad 65 ?_; refine wpList_ldMid rfl 65 _ _ rfl Tryd.underlying65 rfl b (o + k * 2) rfl [.int .u64 blk, .slice ba bl bc] infoIm HR.out ?_)
     | (refine atAlloc _ ?_; refine wpList_run rfl _ _ (exec_alloc 65 rfl _ zeroIm) ?_)
     | (refine atStore _ ?_; refine wpList_newRow wr #[.int .u64 0, .slice none 0 0] #[.int .u64 blk, .slice ba bl bc] infoIm rfl (by simp [Value.oneCell']) rfl _ _ rfl rfl rfl rfl ?_; intro x1 h1 hb1; have H1 : Box (x1.heap[wr.heap.size]? = some (.cells #[.int .u64 blk, .slice ba bl bc] 65 (0, 0)) /\ Below wr.heap.size wr x1) := ⟨h1, hb1⟩; clear h1 hb1))
    obtain ⟨B, hB⟩ : ∃ B, wr.heap.size = B := ⟨_, rfl⟩
    simp only [hB]
    have HBX : Box (∀ x, Below x1.heap.size x1 x -> x.rangeAt B 0 [.int .u64 blk, .slice ba bl bc] /\ Below wr.heap.size wr x) := ⟨fun x hx => by
     have h3 := H1.out
     rw [hB] at h3
     have r := (hx.block B (Array.getElem?_eq_some_iff.1 h3.1).1).trans h3.1
     exact ⟨range_arr r _ (fun j v hv => by simpa using hv), below_to H1.out.2 hx⟩⟩
    have HR1 : Box (x1.rangeAt B 0 [.int .u64 blk, .slice ba bl bc]) := ⟨(HBX.out x1 (Below.refl _ _)).1⟩
    clear hB
    go_wp2_with (first
     | (refine atLoad 65 ?_; refine wpList_ldMid rfl 65 _ _ rfl Tryd.underlying65 rfl B 0 rfl [.int .u64 blk, .slice ba bl bc] infoIm HR1.out ?_)
     | (go_at_call 52; refine (whole_any ⟨blk, ba, bl, bc, bs⟩ false HWH.out _).mono ?_; rintro e x2 ⟨rfl, hbx⟩; have H2 : Box (Below x1.heap.size x1 x2) := ⟨hbx⟩; clear hbx))
    go_ret2
    exact ⟨rfl, below_to HK.out.1.bel (HBX.out x2 H2.out).2⟩
   have HGD : Box (∀ i (hi : i < M.length), i < k + 1 -> M[i].bl = 160) := ⟨fun i hi h => by
    by_cases e : i = k
    ·subst e; exact hgood
    ·exact HK.out.2 i hi (by omega)⟩
   have hlt1 : decide ((k : Int) < (n : Int)) = true := by simp; omega
   have hkm : k < M.length := by omega
   have hF := HOK.out.2 wr k Q HK.out.1 hkm
   have HST : Box (∀ wx m', Below wr.heap.size wr wx -> pl m' = pl M[k] -> OIm wx w.heap.size m' -> ∃ Q', OfK w (wx.setCells g (k * 3) (imc m')) M g n (k + 1) Q') := ⟨fun wx m' h1 h2 h3 => ⟨_, HK.out.1.step HOK.out.1 hlt h1 m' h2 h3⟩⟩
   obtain ⟨⟨blk, ba, bl, bc, bs⟩, hmm⟩ : ∃ m, M[k] = m := ⟨_, rfl⟩
   rw [hmm] at hF HST
   simp only at hF
   have HR : Box (wr.rangeAt b (o + k * 2) [.int .u64 blk, .slice ba bl bc]) := ⟨hF.1⟩
   have HF2 : Box (∀ x, Below wr.heap.size wr x -> Bytes x ba bl bs) := ⟨fun x hx => hF.2.1.below hx⟩
   have HF3 : Box (N64 blk /\ bl = 160) := ⟨hF.2.2.1, by rw [hmm] at hgood; exact hgood⟩
   have HROW : Box (∀ x, Below wr.heap.size wr x -> x.there g (k * 3) 2) := ⟨fun x hx => there_row ((hx.block g (Array.getElem?_eq_some_iff.1 HK.out.1.row).1).trans HK.out.1.row) (by
    have := flat_len rcc 3 (fun _ => rfl) (Q.map rf ++ List.replicate (n - k) zrc)
    simp only [List.length_append, List.length_map, List.length_replicate, HK.out.1.len] at this
    simp only [List.size_toArray]
    rw [this]
    omega)⟩
   have HBL : Box (w.heap.size <= wr.heap.size) := ⟨HK.out.1.bel.size⟩
   have HLT : Box (k < n) := ⟨hlt⟩
   have HWH : Box (((bl : Int) == 160) = true) := ⟨by rw [HF3.out.2]; rfl⟩
   have hw4 : IntKind.i64.wrap ((k : Int) + 1) = ((k + 1 : Nat) : Int) := by rw [IntKind.wrap_i64]; omega
   clear hF hmm hkm hgood
   go_upto_region 7 with (first
    | (refine atIdx 50 ?_; refine wpList_run rfl _ _ (exec_idxT 50 65 Tryd.underlying50 2 infoIm _ _ rfl b o n cap k rfl rfl HLT.out) ?_)
    | (refine atLoad 65 ?_; refine wpList_ldMid rfl 65 _ _ rfl Tryd.underlying65 rfl b (o + k * 2) rfl [.int .u64 blk, .slice ba bl bc] infoIm HR.out ?_)
    | (refine atAlloc _ ?_; refine wpList_run rfl _ _ (exec_alloc 65 rfl _ zeroIm) ?_)
    | (refine atStore _ ?_; refine wpList_newRow wr #[.int .u64 0, .slice none 0 0] #[.int .u64 blk, .slice ba bl bc] infoIm rfl (by simp [Value.oneCell']) rfl _ _ rfl rfl rfl rfl ?_; intro x1 h1 hb1; have H1 : Box (x1.heap[wr.heap.size]? = some (.cells #[.int .u64 blk, .slice ba bl bc] 65 (0, 0)) /\ Below wr.heap.size wr x1) := ⟨h1, hb1⟩; clear h1 hb1))
   obtain ⟨B, hB⟩ : ∃ B, wr.heap.size = B := ⟨_, rfl⟩
   simp only [hB]
   have HBX : Box (∀ x, Below x1.heap.size x1 x -> x.rangeAt B 0 [.int .u64 blk, .slice ba bl bc] /\ Below wr.heap.size wr x) := ⟨fun x hx => by
    have h3 := H1.out
    rw [hB] at h3
    have r := (hx.block B (Array.getElem?_eq_some_iff.1 h3.1).1).trans h3.1
    exact ⟨range_arr r _ (fun j v hv => by simpa using hv), below_to H1.out.2 hx⟩⟩
   have HR1 : Box (x1.rangeAt B 0 [.int .u64 blk, .slice ba bl bc]) := ⟨(HBX.out x1 (Below.refl _ _)).1⟩
   clear hB
   go_upto_region 9 with (first
    | (refine atLoad 65 ?_; refine wpList_ldMid rfl 65 _ _ rfl Tryd.underlying65 rfl B 0 rfl [.int .u64 blk, .slice ba bl bc] infoIm HR1.out ?_)
    | (go_at_call 52; refine (whole_any ⟨blk, ba, bl, bc, bs⟩ true HWH.out _).mono ?_; rintro e x2 ⟨rfl, hbx⟩; have H2 : Box (Below x1.heap.size x1 x2) := ⟨hbx⟩; clear hbx))
   have HR2 : Box (x2.rangeAt B 0 [.int .u64 blk, .slice ba bl bc]) := ⟨(HBX.out x2 H2.out).1⟩
   have HOW : Box (Calls Tryd.prog 53 #[.agg #[.int .u64 blk, .slice ba bl bc]] x2 fun e w' => ∃ m', e = .returned (.agg (imc m').toArray) /\ Owned x2 w' ⟨blk, ba, bl, bc, bs⟩ m') := ⟨own_any ⟨blk, ba, bl, bc, bs⟩ x2 (HF2.out x2 (HBX.out x2 H2.out).2) HF3.out.1 (by show bl < 1000000; rw [HF3.out.2]; decide)⟩
   clear HR1
   go_wp2_with (first
    | (refine atLoad 65 ?_; refine wpList_ldMid rfl 65 _ _ rfl Tryd.underlying65 rfl B 0 rfl [.int .u64 blk, .slice ba bl bc] infoIm HR2.out ?_)
    | (go_at_call 53; refine HOW.out.mono ?_; rintro e x3 ⟨⟨mb, ma, ml, mc, ms⟩, rfl, hO⟩; have H3 : Box (Below wr.heap.size wr x3 /\ pl ⟨mb, ma, ml, mc, ms⟩ = pl ⟨blk, ba, bl, bc, bs⟩ /\ OIm x3 w.heap.size ⟨mb, ma, ml, mc, ms⟩) := ⟨below_to (HBX.out x2 H2.out).2 hO.2.2.2, hO.1, hO.2.2.1.low (by have := (HBX.out x2 H2.out).2.size; have := HBL.out; omega)⟩; clear hO)
    | (refine atIdx 96 ?_; refine wpList_run rfl _ _ (exec_idxT 96 101 Tryd.underlying96 3 infoRc _ _ rfl g 0 n n k rfl rfl HLT.out) ?_; rw [Nat.zero_add])
    | (refine atStore _ ?_; refine wpList_stMid rfl 65 _ _ rfl g (k * 3) #[.int .u64 mb, .slice ma ml mc] rfl rfl (HROW.out x3 H3.out.1) infoIm (by simp [Value.oneCell']) ?_))
   obtain ⟨Q', hQ'⟩ := HST.out x3 ⟨mb, ma, ml, mc, ms⟩ H3.out.1 H3.out.2.1 H3.out.2.2
   go_roundw
   case rel => exact ⟨k + 1, Q', HLT.out, by go_num, ⟨hQ', HGD.out⟩⟩
   case measure => simp [intOf]; have := HLT.out; omega
  ·exfalso
   obtain ⟨m, hm, hne⟩ := HM.out.2.2
   obtain ⟨i, hi, rfl⟩ := List.getElem_of_mem hm
   exact hne (HK.out.2 i hi (by have := HN.out; omega))
structure RoK (w wr : World) (P : List (Int × List Int)) (k : Nat) (v : Value) : Prop where
 row : wr.ownsRow w.heap.size 116 3 v k (((ofP P).take k).map rrc).flatten
 bel : Below w.heap.size w wr
set_option maxRecDepth 20000 in
set_option maxHeartbeats 2000000 in
theorem rof_ok (a : Option Addr) (cap : Nat) (P : List (Int × List Int)) (w : World) (h : Tb w a 2 ic P) (hl : P.length <= 1000) (h0 : 0 < P.length) (hall : ∀ x ∈ P, x.2.length = 160) :
  Calls Tryd.prog 43 #[.slice a P.length cap] w fun e w' => ∃ v, e = .returned (.tuple #[v, .int .i64 0]) /\ RoK w w' P P.length v := by
 obtain ⟨b, o, rfl, hbl, hr⟩ := h h0
 obtain ⟨n, hn⟩ : ∃ n, P.length = n := ⟨_, rfl⟩
 rw [hn] at hl h0 ⊢
 have HN : Box (P.length = n /\ ∀ x ∈ P, x.2.length = 160) := ⟨hn, hall⟩
 have hz : ((n : Int) == 0) = false := by simp; omega
 have HR : Box (∀ x, Below w.heap.size w x -> ∀ k (hk : k < P.length), x.rangeAt b (o + k * 2) (ic P[k])) := ⟨fun x hx k hk => range_below hx (hr k hk) hbl⟩
 clear h hr hall
 go_enter Tryd.func43, Tryd.ntmps43
 go_wp2
 go_loopw [4, 5] (fun v i wr => ∃ k : Nat, k <= n /\ i = .int .i64 (k : Int) /\ Box (RoK w wr P k v)) (fun _ i _ => n - (intOf i).toNat)
 case atStart => exact ⟨0, Nat.zero_le _, rfl, ⟨⟨World.ownsRow_nil _ _ _ _, Below.refl _ _⟩⟩⟩
 case round =>
  obtain ⟨k, hk, rfl, HK⟩ := hrel
  by_cases hlt : k < n
  ·have hlt1 : decide ((k : Int) < (n : Int)) = true := by simp; omega
   have hkP : k < P.length := by have := HN.out.1; omega
   have hrk := HR.out wr HK.out.bel k hkP
   have hle := HN.out.2 P[k] (List.getElem_mem hkP)
   have hof : (ofP P)[k]'(by rw [len_ofP]; exact hkP) = (P[k], decide (k + 1 = n)) := by simp [ofP, HN.out.1]
   obtain ⟨⟨blk, L⟩, hpp⟩ : ∃ x, P[k] = x := ⟨_, rfl⟩
   rw [hpp] at hrk hle hof
   obtain ⟨s, hs⟩ : ∃ s, strOfNums L = s := ⟨_, rfl⟩
   have hsz : s.size = 160 := by rw [<- hs, str_size]; exact hle
   have HRg : Box (wr.rangeAt b (o + k * 2) [.int .u64 blk, .string s]) := ⟨by rw [<- hs]; exact hrk⟩
   have hc1 : wr.cell? ⟨b, o + k * 2 + 1, none⟩ = some (.string s) := HRg.out 1 _ rfl
   obtain ⟨bb, hbb⟩ : ∃ bb, decide (k + 1 = n) = bb := ⟨_, rfl⟩
   have hb2 : (((k : Int) + 1) == (n : Int)) = bb := by rw [<- hbb, Bool.eq_iff_iff]; simp; omega
   have HST : Box (∀ w' v', w'.ownsRow w.heap.size 116 3 v' (k + 1) ((((ofP P).take k).map rrc).flatten ++ [.int .u64 blk, .string s, .bool bb]) -> wr.grownBy w' u4.ownBlock -> RoK w w' P (k + 1) v') := ⟨fun w' v' h1 h2 => by
    have hk2 : k < (ofP P).length := by rw [len_ofP]; exact hkP
    refine ⟨?_, HK.out.bel.grown h2 HK.out.bel.size (fun j hj => (own_blk HK.out.row j hj).1)⟩
    rw [List.take_succ_eq_append_getElem hk2, hof, hbb]
    simp only [List.map_append, List.map_cons, List.map_nil, List.flatten_append, List.flatten_cons, List.flatten_nil, List.append_nil]
    have e : rrc ((blk, L), bb) = [.int .u64 blk, .string s, .bool bb] := by rw [<- hs]; rfl
    rw [e]
    exact h1⟩
   have HLT : Box (k < n) := ⟨hlt⟩
   have HOW : Box (w.heap.size <= wr.heap.size /\ k <= 1000000) := ⟨HK.out.bel.size, by omega⟩
   have hw4 : IntKind.i64.wrap ((k : Int) + 1) = ((k : Int) + 1) := by rw [IntKind.wrap_i64]; omega
   clear hrk hle hof hpp hs hbb hkP
   go_wp2_with (first
    | (refine atIdx 83 ?_; refine wpList_run rfl _ _ (exec_idxT 83 114 Tryd.underlying83 2 infoI _ _ rfl b o n cap k rfl rfl HLT.out) ?_)
    | (refine atLoad 114 ?_; refine wpList_ldMid rfl 114 _ _ rfl Tryd.underlying114 rfl b (o + k * 2) rfl [.int .u64 blk, .string s] infoI HRg.out ?_)
    | (refine atBuild 116 ?_; refine wpList_run rfl _ _ (exec_built 116 [(0, .tmp 26), (1, .tmp 31)] rfl [(0, .agg #[.int .u64 blk, .string s]), (1, .bool bb)] rfl _ (built_Rr _ _ _)) ?_)
    | (at_builtin; refine wpList_appR 108 116 Tryd.underlying108 3 32 _ infRr rfl (by decide) rfl (.tmp 22) (.tmp 33) rfl w.heap.size k u4 (((ofP P).take k).map rrc).flatten [.int .u64 blk, .string s, .bool bb] wr rfl rfl rfl HK.out.row rfl (by simp [Value.oneCell']) HOW.out.2 (by decide) (by decide) HOW.out.1 ?_; intro v3 x3 hown hgr; have H3 : Box (RoK w x3 P (k + 1) v3) := ⟨HST.out x3 v3 hown hgr⟩; clear hown hgr))
   go_roundw
   case rel => exact ⟨k + 1, HLT.out, by go_num, H3⟩
   case measure => simp [intOf]; have := HLT.out; omega
  ·obtain rfl : k = n := by omega
   have hlt1 : decide ((k : Int) < (k : Int)) = false := by simp
   go_wp2
   go_ret2
   exact ⟨_, rfl, HK.out⟩
attribute [local go_sem] Oper.semAt_some
abbrev Ast := Disk.Dk × Int × Int × Jst
def apP (j : Jt) (x : Ast) : Nat := plc j (x.2.2.2.start + x.2.2.2.count)
def apT (j : Jt) (x : Ast) (r : (Int × List Int) × Bool) : List Int := slt j.key (apP j x : Int) x.2.1 r
def apS (j : Jt) (x : Ast) (r : (Int × List Int) × Bool) : Ast :=
 if x.2.2.1 ≠ 0 then x else ((dwr x.1 (apP j x) (apT j x r)).1, x.2.1 + 1, (dwr x.1 (apP j x) (apT j x r)).2, if (dwr x.1 (apP j x) (apT j x r)).2 = 0 then nxS j x.2.2.2 (apP j x) (apT j x r) else x.2.2.2)
def apL (j : Jt) (x : Ast) (L : List ((Int × List Int) × Bool)) : Ast := L.foldl (apS j) x
def bad (L : List (Int × List Int)) : Bool := L.isEmpty || L.any (fun x => decide (x.2.length ≠ 160))
def appM (j : Jt) (d : Disk.Dk) (L : List (Int × List Int)) : Ast :=
 if bad L = true then (d, j.nx, 1, zs) else if tke j L.length ≠ 0 then (d, j.nx, tke j L.length, zs) else
 if (apL j (d, j.nx, 0, j.st) (ofP L)).2.2.1 ≠ 0 then ((apL j (d, j.nx, 0, j.st) (ofP L)).1, (apL j (d, j.nx, 0, j.st) (ofP L)).2.1, (apL j (d, j.nx, 0, j.st) (ofP L)).2.2.1, zs) else apL j (d, j.nx, 0, j.st) (ofP L)
theorem apS_stop (j : Jt) (x : Ast) (r : (Int × List Int) × Bool) (h : x.2.2.1 ≠ 0) : apS j x r = x := by unfold apS; rw [if_pos h]
theorem apL_stop (j : Jt) (x : Ast) (h : x.2.2.1 ≠ 0) : ∀ L, apL j x L = x
 | [] => rfl
 | r :: L => by
  show apL j (apS j x r) L = x
  rw [apS_stop j x r h]
  exact apL_stop j x h L
theorem apL_snoc (j : Jt) (x : Ast) (L : List ((Int × List Int) × Bool)) (r : (Int × List Int) × Bool) : apL j x (L ++ [r]) = apS j (apL j x L) r := by simp [apL]
theorem apL_split (j : Jt) (x : Ast) (L : List ((Int × List Int) × Bool)) (k : Nat) : apL j x L = apL j (apL j x (L.take k)) (L.drop k) := by
 unfold apL
 rw [<- List.foldl_append, List.take_append_drop]
structure Gw (d : Disk.Dk) (k : Nat) (d' : Disk.Dk) : Prop where
 ops : d'.ops.length <= d.ops.length + k
 uw : d'.uw.length <= d.uw.length + k
 left : (0 <= d.left /\ d.left <= 9223372036854775807) -> (0 <= d'.left /\ d'.left <= 9223372036854775807)
 n : d'.n = d.n
theorem Gw.refl (d : Disk.Dk) (k : Nat) : Gw d k d := ⟨by omega, by omega, fun h => h, rfl⟩
theorem Gw.trans {d d' d'' : Disk.Dk} {k l : Nat} (h : Gw d k d') (h' : Gw d' l d'') : Gw d (k + l) d'' :=
 ⟨by have := h.ops; have := h'.ops; omega, by have := h.uw; have := h'.uw; omega, fun e => h'.left (h.left e), h'.n.trans h.n⟩
theorem Gw.more {d d' : Disk.Dk} {k l : Nat} (h : Gw d k d') (hl : k <= l) : Gw d l d' := ⟨by have := h.ops; omega, by have := h.uw; omega, h.left, h.n⟩
theorem gw_wr (d : Disk.Dk) (p : Nat) (S : List Int) : Gw d 1 (dwr d p S).1 := by
 unfold dwr
 split
 ·exact Gw.refl _ _
 ·split
  ·exact ⟨Nat.le_succ _, Nat.le_succ _, fun h => h, rfl⟩
  ·rename_i h4 h5
   refine ⟨by simp [Disk.wrOk], by simp [Disk.wrOk], fun h1 => ?_, rfl⟩
   simp only [Disk.wrOk]
   by_cases hs : d.st = true
   ·rw [if_pos hs]
    have : d.left ≠ 0 := fun e => h5 ⟨hs, e⟩
    omega
   ·rw [if_neg hs]; exact h1
structure Apk (j : Jt) (d : Disk.Dk) (k : Nat) (y : Ast) : Prop where
 gw : Gw d k y.1
 st : y.2.2.1 = 0 -> y.2.2.2.start = j.st.start /\ y.2.2.2.count = j.st.count + k /\ y.2.1 = j.nx + (k : Int) /\ y.2.2.2.tag.length = 32 /\ Byt y.2.2.2.tag
theorem apk_step {j : Jt} {d : Disk.Dk} {k : Nat} {y : Ast} (h : Apk j d k y) (r : (Int × List Int) × Bool) : Apk j d (k + 1) (apS j y r) := by
 by_cases h0 : y.2.2.1 = 0
 ·obtain ⟨h1, h2, h3, h4, h5⟩ := h.st h0
  have e : apS j y r = ((dwr y.1 (apP j y) (apT j y r)).1, y.2.1 + 1, (dwr y.1 (apP j y) (apT j y r)).2, if (dwr y.1 (apP j y) (apT j y r)).2 = 0 then nxS j y.2.2.2 (apP j y) (apT j y r) else y.2.2.2) := by unfold apS; rw [if_neg (fun h => h h0)]
  rw [e]
  refine ⟨h.gw.trans (gw_wr _ _ _), fun hz => ?_⟩
  have hz' : (dwr y.1 (apP j y) (apT j y r)).2 = 0 := hz
  simp only [hz', if_true]
  exact ⟨h1, by show y.2.2.2.count + 1 = _; omega, by rw [h3]; omega, length_dsha _, byt_dsha _⟩
 ·rw [apS_stop j y r h0]
  exact ⟨h.gw.more (by omega), fun h => absurd h h0⟩
theorem apk_take (j : Jt) (ok : j.Ok) (d : Disk.Dk) (L : List ((Int × List Int) × Bool)) : ∀ k, k <= L.length -> Apk j d k (apL j (d, j.nx, 0, j.st) (L.take k))
 | 0, _ => ⟨Gw.refl _ _, fun _ => ⟨rfl, rfl, by show j.nx = j.nx + ((0 : Nat) : Int); omega, ok.st.lt, ok.st.bt⟩⟩
 | k + 1, h => by
  rw [List.take_succ_eq_append_getElem (by omega), apL_snoc]
  exact apk_step (apk_take j ok d L k (by omega)) _
def ApV (w0 w : World) (J D : Nat) (fp : Nat -> Prop) (j : Jt) (y : Ast) (e : Ending) (w' : World) : Prop :=
 ∃ fp', e = .returned (.tuple #[.agg (sa y.2.2.2), .int .i64 y.2.2.1]) /\ JC w0 w' J D fp' { j with nx := y.2.1 } y.1 /\ Fw (fun k => k = J) w w' fp fp'
theorem of_void (a : Option Addr) (cap : Nat) (w : World) : Calls Tryd.prog 35 #[.slice a 0 cap] w fun e w' => e = .returned (.tuple #[.slice none 0 0, .int .i64 1]) /\ Below w.heap.size w w' := by
 go_enter Tryd.func35, Tryd.ntmps35
 go_wp2
 go_ret2
 exact ⟨rfl, Below.refl _ _⟩
set_option maxHeartbeats 4000000 in
theorem append_bad {w0 w : World} {J D : Nat} {fp : Nat -> Prop} {j : Jt} {d : Disk.Dk} (C : JC w0 w J D fp j d) (a : Option Addr) (cap : Nat) (M : List Im) (hM : Imgs w a M) (hl : M.length <= 1000) (hmx : ∀ m ∈ M, m.bl <= 100000) (hbad : bad (M.map pl) = true) :
  Calls Tryd.prog 16 #[.pointer (some ⟨J, 0, none⟩), .slice a M.length cap] w fun e w' => ApV w0 w J D fp j (d, j.nx, 1, zs) e w' := by
 obtain ⟨B, hB⟩ : ∃ B, w.heap.size = B := ⟨_, rfl⟩
 obtain ⟨w1, hw1⟩ : ∃ w1, (w.alloc (.cells #[.pointer (some ⟨J, 0, none⟩)] 39)).alloc (.cells (sa zs) 26) = w1 := ⟨_, rfl⟩
 have hb1 : Below w.heap.size w w1 := by rw [<- hw1]; exact ((Below.refl _ _).alloc (Nat.le_refl _) _).alloc (by simp) _
 have k1 : w1.heap[B]? = some (.cells #[.pointer (some ⟨J, 0, none⟩)] 39 (0, 0)) := by rw [<- hw1]; exact al_old (al_at hB)
 have k2 : w1.heap[B + 1]? = some (.cells (sa zs) 26 (0, 0)) := by rw [<- hw1]; exact al_at (by simp [hB])
 have C1 := C.below hb1
 have HNO : Box (Calls Tryd.prog 30 #[.pointer (some ⟨J, 0, none⟩)] w1 fun e w' => e = .returned (.bool false) /\ w1 = w') := ⟨none_no C1.rd C.ok.lo⟩
 have HBX : Box (∀ x, Below w1.heap.size w1 x -> x.cell? ⟨B, 0, none⟩ = some (.pointer (some ⟨J, 0, none⟩)) /\ x.heap[B + 1]? = some (.cells (sa zs) 26 (0, 0))) := ⟨fun x hx => ⟨by rw [cell_of_row _ _ _ _ _ _ ((hx.block B (Array.getElem?_eq_some_iff.1 k1).1).trans k1)]; rfl, (hx.block (B + 1) (Array.getElem?_eq_some_iff.1 k2).1).trans k2⟩⟩
 have HIZ : Box ((Tryd.prog.info? 26).map (·.size) = some (sa zs).size) := ⟨by rw [size_sa okS_zs]; exact infoSt⟩
 have HB : Box (w.heap.size = B) := ⟨hB⟩
 have hs2 : (w.alloc (.cells #[.pointer (some ⟨J, 0, none⟩)] 39)).heap.size = B + 1 := by simp [hB]
 have c1 := (HBX.out w1 (Below.refl _ _)).1
 have HOF : Box (Calls Tryd.prog 35 #[.slice a M.length cap] w1 fun e w' => e = .returned (.tuple #[.slice none 0 0, .int .i64 1]) /\ Below w1.heap.size w1 w') := ⟨by
  by_cases h0 : M.length = 0
  ·rw [h0]; exact of_void a cap w1
  ·refine of_bad a cap M w1 (hM.below hb1) hl (by omega) ?_ hmx
   simp only [bad, List.isEmpty_map, Bool.or_eq_true, List.isEmpty_iff, List.any_eq_true, List.mem_map, decide_eq_true_eq] at hbad
   rcases hbad with h | ⟨x, ⟨m, hm, rfl⟩, hx⟩
   ·rw [h] at h0; exact absurd rfl h0
   ·exact ⟨m, hm, by rw [<- (hM.byt m hm).1.1]; exact hx⟩⟩
 have HFO : Box (∀ x, Below w1.heap.size w1 x -> ApV w0 w J D fp j (d, j.nx, 1, zs) (.returned (.tuple #[.agg (sa zs), .int .i64 1])) (x.setRow (B + 1) (sa zs))) := ⟨fun x hx => by
  have hwx := below_to hb1 hx
  have hbb : Below w.heap.size w (x.setRow (B + 1) (sa zs)) := below_but hwx (but_setRow _ _ _) (by omega) hwx.size
  exact ⟨fp, rfl, C.below hbb, Fw.below _ fp hbb⟩⟩
 clear C hM hl hmx hbad hb1 k1 k2 C1 hB
 go_enter Tryd.func16, Tryd.ntmps16
 go_upto_region 1 with (refine atAlloc _ ?_; refine wpList_run rfl _ _ (exec_alloc 26 rfl _ zeroSt) ?_)
 (try rw [hs2])
 (try simp only [HB.out])
 clear hw1 hs2
 go_upto_region 5 with (first
  | (go_at_call 30; refine HNO.out.mono ?_; rintro e x1 ⟨rfl, rfl⟩)
  | (go_at_call 35; refine HOF.out.mono ?_; rintro e x2 ⟨rfl, hb⟩; have H2 : Box (Below w1.heap.size w1 x2) := ⟨hb⟩; clear hb))
 have HR : Box _ := ⟨(HBX.out x2 H2.out).2⟩
 go_wp2_with (first
  | (refine atBuild _ ?_; refine wpList_run rfl _ _ (exec_built 26 [] rfl [] rfl _ built_St0) ?_)
  | (refine atStore _ ?_; refine wpList_store_row rfl 26 _ _ rfl (B + 1) (sa zs) rfl rfl 26 (sa zs) HR.out HIZ.out rfl (all_sa zs) ?_))
 refine bodyPost_ret (results_row2 (t := 4) (u := 5) rfl _ Tryd.underlying26 rfl _ _ (B + 1) (sa zs) HIZ.out rfl (setRow_heap _ _ _ _ _ _ HR.out)) rfl ?_
 exact HFO.out x2 H2.out
set_option maxHeartbeats 4000000 in
theorem append_few {w0 w : World} {J D : Nat} {fp : Nat -> Prop} {j : Jt} {d : Disk.Dk} (C : JC w0 w J D fp j d) (a : Option Addr) (cap : Nat) (M : List Im) (hM : Imgs w a M) (hl : M.length <= 1000) (hmx : ∀ m ∈ M, m.bl <= 100000) (hbad : bad (M.map pl) = false) (E : Int) (htk : tke j M.length = E) (hE : E ≠ 0) :
  Calls Tryd.prog 16 #[.pointer (some ⟨J, 0, none⟩), .slice a M.length cap] w fun e w' => ApV w0 w J D fp j (d, j.nx, E, zs) e w' := by
 obtain ⟨B, hB⟩ : ∃ B, w.heap.size = B := ⟨_, rfl⟩
 obtain ⟨w1, hw1⟩ : ∃ w1, (w.alloc (.cells #[.pointer (some ⟨J, 0, none⟩)] 39)).alloc (.cells (sa zs) 26) = w1 := ⟨_, rfl⟩
 have hb1 : Below w.heap.size w w1 := by rw [<- hw1]; exact ((Below.refl _ _).alloc (Nat.le_refl _) _).alloc (by simp) _
 have k1 : w1.heap[B]? = some (.cells #[.pointer (some ⟨J, 0, none⟩)] 39 (0, 0)) := by rw [<- hw1]; exact al_old (al_at hB)
 have k2 : w1.heap[B + 1]? = some (.cells (sa zs) 26 (0, 0)) := by rw [<- hw1]; exact al_at (by simp [hB])
 have C1 := C.below hb1
 have HNO : Box (Calls Tryd.prog 30 #[.pointer (some ⟨J, 0, none⟩)] w1 fun e w' => e = .returned (.bool false) /\ w1 = w') := ⟨none_no C1.rd C.ok.lo⟩
 have HBX : Box (∀ x, Below w1.heap.size w1 x -> x.cell? ⟨B, 0, none⟩ = some (.pointer (some ⟨J, 0, none⟩)) /\ x.heap[B + 1]? = some (.cells (sa zs) 26 (0, 0))) := ⟨fun x hx => ⟨by rw [cell_of_row _ _ _ _ _ _ ((hx.block B (Array.getElem?_eq_some_iff.1 k1).1).trans k1)]; rfl, (hx.block (B + 1) (Array.getElem?_eq_some_iff.1 k2).1).trans k2⟩⟩
 have HIZ : Box ((Tryd.prog.info? 26).map (·.size) = some (sa zs).size) := ⟨by rw [size_sa okS_zs]; exact infoSt⟩
 have HB : Box (w.heap.size = B) := ⟨hB⟩
 have hs2 : (w.alloc (.cells #[.pointer (some ⟨J, 0, none⟩)] 39)).heap.size = B + 1 := by simp [hB]
 have c1 := (HBX.out w1 (Below.refl _ _)).1
 obtain ⟨n, hn⟩ : ∃ n, M.length = n := ⟨_, rfl⟩
 have HOF : Box (Calls Tryd.prog 35 #[.slice a n cap] w1 fun e w' => ∃ g, e = .returned (.tuple #[.slice (some ⟨g, 0, none⟩) n n, .int .i64 0]) /\ Below w1.heap.size w1 w') := ⟨by
  rw [<- hn]
  simp only [bad, List.isEmpty_map, Bool.or_eq_false_iff, List.any_eq_false, List.mem_map, decide_eq_true_eq] at hbad
  refine (of_ok a cap M w1 (hM.below hb1) hl ?_ (fun m hm => ?_)).mono fun e w' ⟨g, R, h1, _, _, _, h2⟩ => ⟨g, h1, h2⟩
  ·cases M with
   | nil => simp at hbad
   | cons m M => simp
  ·have := hbad.2 (pl m) ⟨m, hm, rfl⟩
   rw [<- (hM.byt m hm).1.1]
   simpa [pl] using this⟩
 have HTK : Box (∀ x, Below w1.heap.size w1 x -> Calls Tryd.prog 36 #[.pointer (some ⟨J, 0, none⟩), .int .u64 (n : Int)] x fun e w' => e = .returned (.int .i64 E) /\ Below x.heap.size x w') := ⟨fun x hx => by
  have := takes_any (C1.below hx).row C.ok n (by omega)
  rw [<- hn, htk, hn] at this
  exact this⟩
 have HFO : Box (∀ x, Below w1.heap.size w1 x -> ApV w0 w J D fp j (d, j.nx, E, zs) (.returned (.tuple #[.agg (sa zs), .int .i64 E])) (x.setRow (B + 1) (sa zs))) := ⟨fun x hx => by
  have hwx := below_to hb1 hx
  have hbb : Below w.heap.size w (x.setRow (B + 1) (sa zs)) := below_but hwx (but_setRow _ _ _) (by omega) hwx.size
  exact ⟨fp, rfl, C.below hbb, Fw.below _ fp hbb⟩⟩
 have hw6 : IntKind.u64.wrap (n : Int) = (n : Int) := by rw [IntKind.wrap_u64]; omega
 have hEb : (E != 0) = true := by simp [hE]
 have hEc : (E == 0) = false := by simp [hE]
 rw [hn]
 clear C hM hl hmx hbad hb1 k1 k2 C1 hB hn htk hE
 go_enter Tryd.func16, Tryd.ntmps16
 go_upto_region 1 with (refine atAlloc _ ?_; refine wpList_run rfl _ _ (exec_alloc 26 rfl _ zeroSt) ?_)
 (try rw [hs2])
 (try simp only [HB.out])
 clear hw1 hs2
 go_upto_region 6 with (first
  | (go_at_call 30; refine HNO.out.mono ?_; rintro e x1 ⟨rfl, rfl⟩)
  | (go_at_call 35; refine HOF.out.mono ?_; rintro e x2 ⟨g, rfl, hb⟩; have H2 : Box (Below w1.heap.size w1 x2) := ⟨hb⟩; clear hb))
 have c2 := (HBX.out x2 H2.out).1
 go_upto_region 8 with (go_at_call 36; refine (HTK.out x2 H2.out).mono ?_; rintro e x3 ⟨rfl, hb⟩; have H3 : Box (Below w1.heap.size w1 x3) := ⟨below_to H2.out hb⟩; clear hb)
 have HR : Box _ := ⟨(HBX.out x3 H3.out).2⟩
 go_wp2_with (first
  | (refine atBuild _ ?_; refine wpList_run rfl _ _ (exec_built 26 [] rfl [] rfl _ built_St0) ?_)
  | (refine atStore _ ?_; refine wpList_store_row rfl 26 _ _ rfl (B + 1) (sa zs) rfl rfl 26 (sa zs) HR.out HIZ.out rfl (all_sa zs) ?_))
 refine bodyPost_ret (results_row2 (t := 4) (u := 5) rfl _ Tryd.underlying26 rfl _ _ (B + 1) (sa zs) HIZ.out rfl (setRow_heap _ _ _ _ _ _ HR.out)) rfl ?_
 exact HFO.out x3 H3.out
end Go.Proofs.YthfobaeafapbnaaDoor
