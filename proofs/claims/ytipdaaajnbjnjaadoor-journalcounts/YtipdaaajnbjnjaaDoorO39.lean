/-
  The reference's Put and Get of records; the law's recordOf; == on the reference's records. And what follows it.
-/
import Derived.Laws.IdiomStrings
import Derived.Test.YtipdaaajnbjnjaaDoorO37
import Derived.Test.YtipdaaajnbjnjaaDoorO38
namespace Go.Proofs.YtipdaaajnbjnjaaDoor
set_option maxRecDepth 100000
set_option linter.unusedVariables false
open Go.RowKit Plain
theorem b1 : bytesOf 1 8 = [1, 0, 0, 0, 0, 0, 0, 0] := by decide
end Go.Proofs.YtipdaaajnbjnjaaDoor
namespace Go.Proofs.YtipdaaajnbjnjaaDoor
set_option maxRecDepth 100000
set_option linter.unusedVariables false
open Go.RowKit Plain
theorem len_ofP (L : List (Int × List Int)) : (ofP L).length = L.length := by simp [ofP]
/-- Appending to a row of one's own leaves it in its block, or in a new one. -/
theorem run_app {P : Program} (w : World) (t ty e : TypeId) (i : TypeInfo) (z : Value) (size bytes : Nat) (ht : P.underlying t = some (.slice e)) (hi : P.info? e = some i) (hz : i.zero = some z)
    (hsize : i.size = size) (hby : i.bytes = bytes) (hzs : z.cells.size = size) (hsz : 0 < size) (v : Value) (n : Nat) (xs : List Value) (hown : w.ownsRow 0 e size v n xs)
    (a : Addr) (m c : Nat) (news : List Value) (hl : news.length = m * size) (hnews : ∀ j u, news[j]? = some u → w.cell? (a.add j) = some u) (h1 : ∀ u ∈ news, u.oneCell' = true)
    (h63 : n + m ≤ maxLen) (hbytes : (n + m) * bytes ≤ 140737488355328) :
    ∃ v' w', (Builtin.append_ #[t, t] ty #[v, .slice (some a) m c]).run P w = .ok v' w' ∧ w'.ownsRow 0 e size v' (n + m) (xs ++ news) ∧ w.grownBy w' v.ownBlock ∧ ∀ k, v'.ownBlock = some k → v.ownBlock = some k ∨ w.heap.size ≤ k := by
  obtain ⟨v', w', hr, h2, h3, h4⟩ := run_append_own (P := P) w 0 t ty e i z size bytes ht hi hz hsize hby hzs hsz v n xs hown a m c news hl hnews h1 h63 hbytes (Nat.zero_le _)
  refine ⟨v', w', hr, h2, h3, ?_⟩
  rcases hown.2 with ⟨rfl, rfl⟩ | ⟨g, cap, cur, rfl, hbg, hg, hnc, hcm, hcs, htake⟩
  · have hx : xs = [] := List.eq_nil_of_length_eq_zero (by simpa using hown.1)
    subst hx
    obtain ⟨v2, w2, hr2, h22, _⟩ := run_append_own (P := P) w w.heap.size t ty e i z size bytes ht hi hz hsize hby hzs hsz _ 0 [] (World.ownsRow_nil w w.heap.size e size) a m c news hl hnews h1 h63 hbytes (Nat.le_refl _)
    rw [hr] at hr2
    simp only [Result.ok.injEq] at hr2
    obtain ⟨rfl, rfl⟩ := hr2
    exact fun k hk => .inr (h22.lt k hk).1
  · subst hsize
    subst hby
    by_cases hroom : n + m ≤ cap
    · have hfit : n * i.size + news.length ≤ cur.size := by rw [hl, hcs, ← Nat.add_mul]; exact Nat.mul_le_mul_right _ hroom
      have hr2 := run_append_room (P := P) w t ty e i ht hi g n cap cur hg a m c news hl hnews h1 hroom hfit
      rw [hr] at hr2
      simp only [Result.ok.injEq] at hr2
      obtain ⟨rfl, rfl⟩ := hr2
      exact fun k hk => .inl hk
    · have hsmall : n + m ≤ 9223372036854775807 := by simp only [maxLen] at h63; omega
      have holds : ∀ j u, xs[j]? = some u → w.cell? ((⟨g, 0, none⟩ : Addr).add j) = some u := hown.cells (g := g) rfl
      have hr2 := run_append_grow (P := P) w t ty e i z ht hi hz ⟨g, 0, none⟩ n cap xs hown.1 holds a m c news hl hnews (by omega) (by omega) (growslice_fits (by omega) hbytes)
      rw [hr] at hr2
      simp only [Result.ok.injEq] at hr2
      obtain ⟨rfl, rfl⟩ := hr2
      exact fun k hk => .inr (by simp [Value.ownBlock] at hk; omega)
set_option maxRecDepth 20000 in
set_option maxHeartbeats 2000000 in
theorem of_bad (a : Option Addr) (cap : Nat) (M : List Im) (w : World) (h : Imgs w a M) (hl : M.length ≤ 1000) (h0 : 0 < M.length) (hall : ∃ m ∈ M, m.bl ≠ 160) (hmx : ∀ m ∈ M, m.bl ≤ 100000) :
    Calls Tryd.prog 45 #[.slice a M.length cap] w fun e w' => e = .returned (.tuple #[.slice none 0 0, .int .i64 1]) ∧ Below w.heap.size w w' := by
  have HM : Box ((∀ x, Below w.heap.size w x → Imgs x a M) ∧ (∀ m ∈ M, m.bl ≤ 100000) ∧ ∃ m ∈ M, m.bl ≠ 160) := ⟨fun x hx => h.below hx, hmx, hall⟩
  obtain ⟨b, o, rfl, hbl, hr⟩ := h.tb h0
  obtain ⟨n, hn⟩ : ∃ n, M.length = n := ⟨_, rfl⟩
  rw [hn] at hl h0 ⊢
  have HN : Box (M.length = n) := ⟨hn⟩
  have hz : ((n : Int) == 0) = false := by simp; omega
  have HMK : Box (40 * n ≤ 281474976710656 ∧ n ≤ 9223372036854775807) := ⟨by omega, by omega⟩
  obtain ⟨g, hg⟩ : ∃ g, w.heap.size = g := ⟨_, rfl⟩
  obtain ⟨w1, hw1⟩ : ∃ w1, w.alloc (.cells ((List.replicate n zrc).map rcc).flatten.toArray 113) = w1 := ⟨_, rfl⟩
  have HK0 : Box (OfK w w1 M g n 0 []) := ⟨⟨by rw [← hw1]; simp only [List.map_nil, List.nil_append, Nat.sub_zero]; exact al_at hg, rfl, by simp, fun m hm => by simp at hm, by rw [← hw1]; exact (Below.refl _ _).alloc (Nat.le_refl _) _, Nat.le_of_eq hg⟩⟩
  have HMC : Box (w.alloc (.cells (madeCells #[.int .u64 0, .slice none 0 0, .bool false] (n * 3)) 113) = w1) := ⟨by rw [← hw1, made_flat rcc 3 (fun _ => rfl) (by decide) zrc #[.int .u64 0, .slice none 0 0, .bool false] rfl n]⟩
  have HOK : Box (M.length = n ∧ ∀ wr k Q, OfK w wr M g n k Q → ∀ hk : k < M.length, wr.rangeAt b (o + k * 2) (imc M[k]) ∧ Bytes wr M[k].ba M[k].bl M[k].bs ∧ N64 M[k].blk ∧ M[k].bl ≤ 100000 ∧ b < wr.heap.size) := ⟨hn, fun wr k Q hK hk => by
    have hb := (HM.out.1 wr hK.bel).byt M[k] (List.getElem_mem hk)
    exact ⟨range_below hK.bel (hr k hk) hbl, hb.1, hb.2.1, HM.out.2.1 _ (List.getElem_mem hk), Nat.lt_of_lt_of_le hbl hK.bel.size⟩⟩
  clear h hall hmx hr hw1
  go_enter Tryd.func45, Tryd.ntmps45
  go_upto_region 4 with (refine atMake _ ?_; refine wpList_run rfl _ _ (exec_make 108 113 _ _ rfl _ 3 40 Tryd.underlying108 infRc n rfl rfl HMK.out.1 HMK.out.2) ?_)
  have hcz : (Value.agg #[.int .u64 0, .slice none 0 0, .bool false]).cells = #[.int .u64 0, .slice none 0 0, .bool false] := rfl
  (try simp only [HMC.out])
  clear hcz
  go_wp2
  go_loopw [15] (fun i wr => ∃ (k : Nat) (Q : List Im), k ≤ n ∧ i = .int .i64 (k : Int) ∧ Box (OfK w wr M g n k Q ∧ ∀ i (hi : i < M.length), i < k → M[i].bl = 160)) (fun i _ => n - (intOf i).toNat)
  case atStart => exact ⟨0, [], Nat.zero_le _, rfl, ⟨HK0.out, fun i hi h => by omega⟩⟩
  case round =>
    obtain ⟨k, Q, hk, rfl, HK⟩ := hrel
    by_cases hlt : k < n
    · by_cases hgood : (M[k]'(by have := HN.out; omega)).bl = 160
      rotate_left
      · have hlt1 : decide ((k : Int) < (n : Int)) = true := by simp; omega
        have hkm : k < M.length := by omega
        have hF := HOK.out.2 wr k Q HK.out.1 hkm
        have HST : Box (∀ wx m', Below wr.heap.size wr wx → pl m' = pl M[k] → OIm wx w.heap.size m' → ∃ Q', OfK w (wx.setCells g (k * 3) (imc m')) M g n (k + 1) Q') := ⟨fun wx m' h1 h2 h3 => ⟨_, HK.out.1.step HOK.out.1 hlt h1 m' h2 h3⟩⟩
        obtain ⟨⟨blk, ba, bl, bc, bs⟩, hmm⟩ : ∃ m, M[k] = m := ⟨_, rfl⟩
        rw [hmm] at hF HST
        simp only at hF
        have HR : Box (wr.rangeAt b (o + k * 2) [.int .u64 blk, .slice ba bl bc]) := ⟨hF.1⟩
        have HF2 : Box (∀ x, Below wr.heap.size wr x → Bytes x ba bl bs) := ⟨fun x hx => hF.2.1.below hx⟩
        have HF3 : Box (N64 blk ∧ ¬ bl = 160) := ⟨hF.2.2.1, by rw [hmm] at hgood; exact hgood⟩
        have HROW : Box (∀ x, Below wr.heap.size wr x → x.there g (k * 3) 2) := ⟨fun x hx => there_row ((hx.block g (Array.getElem?_eq_some_iff.1 HK.out.1.row).1).trans HK.out.1.row) (by
          have := flat_len rcc 3 (fun _ => rfl) (Q.map rf ++ List.replicate (n - k) zrc)
          simp only [List.length_append, List.length_map, List.length_replicate, HK.out.1.len] at this
          simp only [List.size_toArray]
          rw [this]
          omega)⟩
        have HBL : Box (w.heap.size ≤ wr.heap.size) := ⟨HK.out.1.bel.size⟩
        have HLT : Box (k < n) := ⟨hlt⟩
        have HWH : Box (((bl : Int) == 160) = false) := ⟨by simp; exact fun e => HF3.out.2 (by omega)⟩
        have hw4 : IntKind.i64.wrap ((k : Int) + 1) = ((k + 1 : Nat) : Int) := by rw [IntKind.wrap_i64]; omega
        clear hF hmm hkm hgood
        go_upto_region 7 with (first
          | (refine atIdx 50 ?_; refine wpList_run rfl _ _ (exec_idxT 50 77 Tryd.underlying50 2 infoIm _ _ rfl b o n cap k rfl rfl HLT.out) ?_)
          | (refine atLoad 77 ?_; refine wpList_ldMid rfl 77 _ _ rfl Tryd.underlying77 rfl b (o + k * 2) rfl [.int .u64 blk, .slice ba bl bc] infoIm HR.out ?_)
          | (refine atAlloc _ ?_; refine wpList_run rfl _ _ (exec_alloc 77 rfl _ zeroIm) ?_)
          | (refine atStore _ ?_; refine wpList_newRow wr #[.int .u64 0, .slice none 0 0] #[.int .u64 blk, .slice ba bl bc] infoIm rfl (by simp [Value.oneCell']) rfl _ _ rfl rfl rfl rfl ?_; intro x1 h1 hb1; have H1 : Box (x1.heap[wr.heap.size]? = some (.cells #[.int .u64 blk, .slice ba bl bc] 77 (0, 0)) ∧ Below wr.heap.size wr x1) := ⟨h1, hb1⟩; clear h1 hb1))
        obtain ⟨B, hB⟩ : ∃ B, wr.heap.size = B := ⟨_, rfl⟩
        simp only [hB]
        have HBX : Box (∀ x, Below x1.heap.size x1 x → x.rangeAt B 0 [.int .u64 blk, .slice ba bl bc] ∧ Below wr.heap.size wr x) := ⟨fun x hx => by
          have h3 := H1.out
          rw [hB] at h3
          have r := (hx.block B (Array.getElem?_eq_some_iff.1 h3.1).1).trans h3.1
          exact ⟨range_arr r _ (fun j v hv => by simpa using hv), below_to H1.out.2 hx⟩⟩
        have HR1 : Box (x1.rangeAt B 0 [.int .u64 blk, .slice ba bl bc]) := ⟨(HBX.out x1 (Below.refl _ _)).1⟩
        clear hB
        go_wp2_with (first
          | (refine atLoad 77 ?_; refine wpList_ldMid rfl 77 _ _ rfl Tryd.underlying77 rfl B 0 rfl [.int .u64 blk, .slice ba bl bc] infoIm HR1.out ?_)
          | (go_at_call 66; refine (whole_any ⟨blk, ba, bl, bc, bs⟩ false HWH.out _).mono ?_; rintro e x2 ⟨rfl, hbx⟩; have H2 : Box (Below x1.heap.size x1 x2) := ⟨hbx⟩; clear hbx))
        go_ret2
        exact ⟨rfl, below_to HK.out.1.bel (HBX.out x2 H2.out).2⟩
      have HGD : Box (∀ i (hi : i < M.length), i < k + 1 → M[i].bl = 160) := ⟨fun i hi h => by
        by_cases e : i = k
        · subst e; exact hgood
        · exact HK.out.2 i hi (by omega)⟩
      have hlt1 : decide ((k : Int) < (n : Int)) = true := by simp; omega
      have hkm : k < M.length := by omega
      have hF := HOK.out.2 wr k Q HK.out.1 hkm
      have HST : Box (∀ wx m', Below wr.heap.size wr wx → pl m' = pl M[k] → OIm wx w.heap.size m' → ∃ Q', OfK w (wx.setCells g (k * 3) (imc m')) M g n (k + 1) Q') := ⟨fun wx m' h1 h2 h3 => ⟨_, HK.out.1.step HOK.out.1 hlt h1 m' h2 h3⟩⟩
      obtain ⟨⟨blk, ba, bl, bc, bs⟩, hmm⟩ : ∃ m, M[k] = m := ⟨_, rfl⟩
      rw [hmm] at hF HST
      simp only at hF
      have HR : Box (wr.rangeAt b (o + k * 2) [.int .u64 blk, .slice ba bl bc]) := ⟨hF.1⟩
      have HF2 : Box (∀ x, Below wr.heap.size wr x → Bytes x ba bl bs) := ⟨fun x hx => hF.2.1.below hx⟩
      have HF3 : Box (N64 blk ∧ bl = 160) := ⟨hF.2.2.1, by rw [hmm] at hgood; exact hgood⟩
      have HROW : Box (∀ x, Below wr.heap.size wr x → x.there g (k * 3) 2) := ⟨fun x hx => there_row ((hx.block g (Array.getElem?_eq_some_iff.1 HK.out.1.row).1).trans HK.out.1.row) (by
        have := flat_len rcc 3 (fun _ => rfl) (Q.map rf ++ List.replicate (n - k) zrc)
        simp only [List.length_append, List.length_map, List.length_replicate, HK.out.1.len] at this
        simp only [List.size_toArray]
        rw [this]
        omega)⟩
      have HBL : Box (w.heap.size ≤ wr.heap.size) := ⟨HK.out.1.bel.size⟩
      have HLT : Box (k < n) := ⟨hlt⟩
      have HWH : Box (((bl : Int) == 160) = true) := ⟨by rw [HF3.out.2]; rfl⟩
      have hw4 : IntKind.i64.wrap ((k : Int) + 1) = ((k + 1 : Nat) : Int) := by rw [IntKind.wrap_i64]; omega
      clear hF hmm hkm hgood
      go_upto_region 7 with (first
        | (refine atIdx 50 ?_; refine wpList_run rfl _ _ (exec_idxT 50 77 Tryd.underlying50 2 infoIm _ _ rfl b o n cap k rfl rfl HLT.out) ?_)
        | (refine atLoad 77 ?_; refine wpList_ldMid rfl 77 _ _ rfl Tryd.underlying77 rfl b (o + k * 2) rfl [.int .u64 blk, .slice ba bl bc] infoIm HR.out ?_)
        | (refine atAlloc _ ?_; refine wpList_run rfl _ _ (exec_alloc 77 rfl _ zeroIm) ?_)
        | (refine atStore _ ?_; refine wpList_newRow wr #[.int .u64 0, .slice none 0 0] #[.int .u64 blk, .slice ba bl bc] infoIm rfl (by simp [Value.oneCell']) rfl _ _ rfl rfl rfl rfl ?_; intro x1 h1 hb1; have H1 : Box (x1.heap[wr.heap.size]? = some (.cells #[.int .u64 blk, .slice ba bl bc] 77 (0, 0)) ∧ Below wr.heap.size wr x1) := ⟨h1, hb1⟩; clear h1 hb1))
      obtain ⟨B, hB⟩ : ∃ B, wr.heap.size = B := ⟨_, rfl⟩
      simp only [hB]
      have HBX : Box (∀ x, Below x1.heap.size x1 x → x.rangeAt B 0 [.int .u64 blk, .slice ba bl bc] ∧ Below wr.heap.size wr x) := ⟨fun x hx => by
        have h3 := H1.out
        rw [hB] at h3
        have r := (hx.block B (Array.getElem?_eq_some_iff.1 h3.1).1).trans h3.1
        exact ⟨range_arr r _ (fun j v hv => by simpa using hv), below_to H1.out.2 hx⟩⟩
      have HR1 : Box (x1.rangeAt B 0 [.int .u64 blk, .slice ba bl bc]) := ⟨(HBX.out x1 (Below.refl _ _)).1⟩
      clear hB
      go_upto_region 9 with (first
        | (refine atLoad 77 ?_; refine wpList_ldMid rfl 77 _ _ rfl Tryd.underlying77 rfl B 0 rfl [.int .u64 blk, .slice ba bl bc] infoIm HR1.out ?_)
        | (go_at_call 66; refine (whole_any ⟨blk, ba, bl, bc, bs⟩ true HWH.out _).mono ?_; rintro e x2 ⟨rfl, hbx⟩; have H2 : Box (Below x1.heap.size x1 x2) := ⟨hbx⟩; clear hbx))
      have HR2 : Box (x2.rangeAt B 0 [.int .u64 blk, .slice ba bl bc]) := ⟨(HBX.out x2 H2.out).1⟩
      have HOW : Box (Calls Tryd.prog 67 #[.agg #[.int .u64 blk, .slice ba bl bc]] x2 fun e w' => ∃ m', e = .returned (.agg (imc m').toArray) ∧ Owned x2 w' ⟨blk, ba, bl, bc, bs⟩ m') := ⟨own_any ⟨blk, ba, bl, bc, bs⟩ x2 (HF2.out x2 (HBX.out x2 H2.out).2) HF3.out.1 (by show bl < 1000000; rw [HF3.out.2]; decide)⟩
      clear HR1
      go_wp2_with (first
        | (refine atLoad 77 ?_; refine wpList_ldMid rfl 77 _ _ rfl Tryd.underlying77 rfl B 0 rfl [.int .u64 blk, .slice ba bl bc] infoIm HR2.out ?_)
        | (go_at_call 67; refine HOW.out.mono ?_; rintro e x3 ⟨⟨mb, ma, ml, mc, ms⟩, rfl, hO⟩; have H3 : Box (Below wr.heap.size wr x3 ∧ pl ⟨mb, ma, ml, mc, ms⟩ = pl ⟨blk, ba, bl, bc, bs⟩ ∧ OIm x3 w.heap.size ⟨mb, ma, ml, mc, ms⟩) := ⟨below_to (HBX.out x2 H2.out).2 hO.2.2.2, hO.1, hO.2.2.1.low (by have := (HBX.out x2 H2.out).2.size; have := HBL.out; omega)⟩; clear hO)
        | (refine atIdx 108 ?_; refine wpList_run rfl _ _ (exec_idxT 108 113 Tryd.underlying108 3 infoRc _ _ rfl g 0 n n k rfl rfl HLT.out) ?_; rw [Nat.zero_add])
        | (refine atStore _ ?_; refine wpList_stMid rfl 77 _ _ rfl g (k * 3) #[.int .u64 mb, .slice ma ml mc] rfl rfl (HROW.out x3 H3.out.1) infoIm (by simp [Value.oneCell']) ?_))
      obtain ⟨Q', hQ'⟩ := HST.out x3 ⟨mb, ma, ml, mc, ms⟩ H3.out.1 H3.out.2.1 H3.out.2.2
      go_roundw
      case rel => exact ⟨k + 1, Q', HLT.out, by go_num, ⟨hQ', HGD.out⟩⟩
      case measure => simp [intOf]; have := HLT.out; omega
    · exfalso
      obtain ⟨m, hm, hne⟩ := HM.out.2.2
      obtain ⟨i, hi, rfl⟩ := List.getElem_of_mem hm
      exact hne (HK.out.2 i hi (by have := HN.out; omega))
end Go.Proofs.YtipdaaajnbjnjaaDoor
