/-
  Of of package record where it refuses; the reference's Of and Changes.
-/
import Derived.Test.YtgdjdlakndajgaaRF
namespace Go.Proofs.Ytgdjdlakndajgaa
set_option linter.unusedVariables false
open Go.RowKit Plain

/-- Appending to a row of one's own leaves it in its block, or in a new one. -/
theorem run_app {P : Program} (w : World) (t ty e : TypeId) (i : TypeInfo) (z : Value) (size bytes : Nat) (ht : P.underlying t = some (.slice e)) (hi : P.info? e = some i) (hz : i.zero = some z)
    (hsize : i.size = size) (hby : i.bytes = bytes) (hzs : z.cells.size = size) (hsz : 0 < size) (v : Value) (n : Nat) (xs : List Value) (hown : w.ownsRow 0 e size v n xs)
    (a : Addr) (m c : Nat) (news : List Value) (hl : news.length = m * size) (hnews : ∀ j u, news[j]? = some u → w.cell? (a.add j) = some u) (h1 : ∀ u ∈ news, u.oneCell' = true)
    (h63 : n + m ≤ maxLen) (hbytes : (n + m) * bytes ≤ 140737488355328) :
    ∃ v' w', (Builtin.append_ #[t, t] ty #[v, .slice (some a) m c]).run P w = .ok v' w' ∧ w'.ownsRow 0 e size v' (n + m) (xs ++ news) ∧ w.grownBy w' v.ownBlock ∧ ∀ k, v'.ownBlock = some k → v.ownBlock = some k ∨ w.heap.size ≤ k := by
  obtain ⟨v', w', hr, h2, h3, h4⟩ := run_append_own (P := P) w 0 t ty e i z size bytes ht hi hz hsize hby hzs hsz v n xs hown a m c news hl hnews h1 h63 hbytes (Nat.zero_le _)
  refine ⟨v', w', hr, h2, h3, ?_⟩
  rcases hown.2 with ⟨rfl, rfl⟩ | ⟨g, cap, cur, rfl, hbg, hg, hnc, hcm, hcs, htake⟩
  · have hx : xs = [] := List.eq_nil_of_length_eq_zero (by simpa using hown.1)
    subst hx
    obtain ⟨v2, w2, hr2, h22, _⟩ := run_append_own (P := P) w w.heap.size t ty e i z size bytes ht hi hz hsize hby hzs hsz _ 0 [] (World.ownsRow_nil w w.heap.size e size) a m c news hl hnews h1 h63 hbytes (Nat.le_refl _)
    rw [hr] at hr2
    simp only [Result.ok.injEq] at hr2
    obtain ⟨rfl, rfl⟩ := hr2
    exact fun k hk => .inr (h22.lt k hk).1
  · subst hsize
    subst hby
    by_cases hroom : n + m ≤ cap
    · have hfit : n * i.size + news.length ≤ cur.size := by rw [hl, hcs, ← Nat.add_mul]; exact Nat.mul_le_mul_right _ hroom
      have hr2 := run_append_room (P := P) w t ty e i ht hi g n cap cur hg a m c news hl hnews h1 hroom hfit
      rw [hr] at hr2
      simp only [Result.ok.injEq] at hr2
      obtain ⟨rfl, rfl⟩ := hr2
      exact fun k hk => .inl hk
    · have hsmall : n + m ≤ 9223372036854775807 := by simp only [maxLen] at h63; omega
      have holds : ∀ j u, xs[j]? = some u → w.cell? ((⟨g, 0, none⟩ : Addr).add j) = some u := hown.cells (g := g) rfl
      have hr2 := run_append_grow (P := P) w t ty e i z ht hi hz ⟨g, 0, none⟩ n cap xs hown.1 holds a m c news hl hnews (by omega) (by omega) (growslice_fits (by omega) hbytes)
      rw [hr] at hr2
      simp only [Result.ok.injEq] at hr2
      obtain ⟨rfl, rfl⟩ := hr2
      exact fun k hk => .inr (by simp [Value.ownBlock] at hk; omega)
theorem own_up {w : World} {B n : Nat} {e : TypeId} {sz : Nat} {v : Value} {xs : List Value} (h : w.ownsRow 0 e sz v n xs) (hb : ∀ k, v.ownBlock = some k → B ≤ k) : w.ownsRow B e sz v n xs := by
  refine ⟨h.1, ?_⟩
  rcases h.2 with hn | ⟨g, cap, cur, rfl, _, rest⟩
  · exact .inl hn
  · exact .inr ⟨g, cap, cur, rfl, hb g rfl, rest⟩
/-- One thing appended to a row of one's own: in its block, or in a new one. -/
theorem wpList_appS {ops : Array Oper} {rest : List Oper} {o : Oper} {act : Act} {w : World} {Q : Exit → Act → World → Prop} (t e : TypeId) (ht : Try.prog.underlying t = some (.slice e)) (sz bytes : Nat) (z : Value) (hi : (Try.prog.info? e).map (fun i => (i.zero, i.size, i.bytes)) = some (some z, sz, bytes)) (hzs : z.cells.size = sz) (hsz : 0 < sz) (hgd : o.guard = none) (s x : Operand)
    (ho : o.op = .call { callee := .builtin .append, args := #[s, x], argTypes := #[t, t] }) (B n : Nat) (v : Value) (xs cs : List Value) (wn : World) (hs : act.eval s = v) (hx : act.eval x = .slice (some ⟨wn.heap.size, 0, none⟩) 1 1) (hw : w = wn.alloc (.cells cs.toArray e)) (hown : wn.ownsRow B e sz v n xs) (hcs : cs.length = sz) (h1 : ∀ u ∈ cs, u.oneCell' = true) (hn : n ≤ 1000000) (hby : bytes ≤ 1000) (hB : B ≤ wn.heap.size)
    (h : ∀ v' w', w'.ownsRow B e sz v' (n + 1) (xs ++ cs) → wn.grownBy w' v.ownBlock → (∀ k, v'.ownBlock = some k → v.ownBlock = some k ∨ wn.heap.size ≤ k) → wpList Try.prog ops Q rest (act.put o.dst v') w') : wpList Try.prog ops Q (o :: rest) act w := by
  obtain ⟨i0, hi1, hz0, hz1, hz2⟩ := info_parts hi
  subst hw
  have hm : (n + 1) * bytes ≤ 140737488355328 := Nat.le_trans (Nat.mul_le_mul (show n + 1 ≤ 1000001 by omega) hby) (by decide)
  obtain ⟨v', w', hr, h2, h3, h4⟩ := run_app (P := Try.prog) (wn.alloc (.cells cs.toArray e)) t o.type e i0 z sz bytes ht hi1 hz0 hz1 hz2 hzs hsz v n xs (own_low2 (own_to hown ((Below.refl _ _).alloc (Nat.le_refl _) _)) (Nat.zero_le _)) ⟨wn.heap.size, 0, none⟩ 1 1 cs (by rw [hcs, Nat.one_mul]) (news_new wn cs e) h1 (by unfold maxLen; omega) hm
  have h4' : ∀ k, v'.ownBlock = some k → v.ownBlock = some k ∨ wn.heap.size ≤ k := fun k hk => (h4 k hk).imp id (fun h => by simp at h; omega)
  refine wpList_plain hgd fun _ hK => ?_
  unfold Oper.wp execOp
  simp only [ho, resolve, invoke, builtin, Sem.run_bind, Sem.run_pure, Result.andThen_ok, List.map_toArray, List.map_cons, List.map_nil, hs, hx, hr]
  exact hK _ _ (h v' w' (own_up h2 (fun k hk => (h4' k hk).elim (fun e => (own_blk hown k e).1) (fun e => by omega))) (grown_alloc h3) h4')
set_option maxRecDepth 20000 in
set_option maxHeartbeats 2000000 in
theorem of_bad (a : Option Addr) (cap : Nat) (M : List Im) (w : World) (h : Imgs w a M) (hl : M.length ≤ 1000) (h0 : 0 < M.length) (hall : ∃ m ∈ M, m.bl ≠ 160) (hmx : ∀ m ∈ M, m.bl ≤ 100000) :
    Calls Try.prog 15 #[.slice a M.length cap] w fun e w' => e = .returned (.tuple #[.slice none 0 0, .int .i64 1]) ∧ Below w.heap.size w w' := by
  have HM : Box ((∀ x, Below w.heap.size w x → Imgs x a M) ∧ (∀ m ∈ M, m.bl ≤ 100000) ∧ ∃ m ∈ M, m.bl ≠ 160) := ⟨fun x hx => h.below hx, hmx, hall⟩
  obtain ⟨b, o, rfl, hbl, hr⟩ := h.tb h0
  obtain ⟨n, hn⟩ : ∃ n, M.length = n := ⟨_, rfl⟩
  rw [hn] at hl h0 ⊢
  have HN : Box (M.length = n) := ⟨hn⟩
  have hz : ((n : Int) == 0) = false := by simp; omega
  have HMK : Box (40 * n ≤ 281474976710656 ∧ n ≤ 9223372036854775807) := ⟨by omega, by omega⟩
  obtain ⟨g, hg⟩ : ∃ g, w.heap.size = g := ⟨_, rfl⟩
  obtain ⟨w1, hw1⟩ : ∃ w1, w.alloc (.cells ((List.replicate n zrc).map rcc).flatten.toArray 30) = w1 := ⟨_, rfl⟩
  have HK0 : Box (OfK w w1 M g n 0 []) := ⟨⟨by rw [← hw1]; simp only [List.map_nil, List.nil_append, Nat.sub_zero]; exact al_at hg, rfl, by simp, fun m hm => by simp at hm, by rw [← hw1]; exact (Below.refl _ _).alloc (Nat.le_refl _) _, Nat.le_of_eq hg⟩⟩
  have HMC : Box (w.alloc (.cells (madeCells #[.int .u64 0, .slice none 0 0, .bool false] (n * 3)) 30) = w1) := ⟨by rw [← hw1, made_flat rcc 3 (fun _ => rfl) (by decide) zrc #[.int .u64 0, .slice none 0 0, .bool false] rfl n]⟩
  have HOK : Box (M.length = n ∧ ∀ wr k Q, OfK w wr M g n k Q → ∀ hk : k < M.length, wr.rangeAt b (o + k * 2) (imc M[k]) ∧ Bytes wr M[k].ba M[k].bl M[k].bs ∧ N64 M[k].blk ∧ M[k].bl ≤ 100000 ∧ b < wr.heap.size) := ⟨hn, fun wr k Q hK hk => by
    have hb := (HM.out.1 wr hK.bel).byt M[k] (List.getElem_mem hk)
    exact ⟨range_below hK.bel (hr k hk) hbl, hb.1, hb.2.1, HM.out.2.1 _ (List.getElem_mem hk), Nat.lt_of_lt_of_le hbl hK.bel.size⟩⟩
  clear h hall hmx hr hw1
  go_enter Try.func15, Try.ntmps15
  go_upto_region 4 with (refine atMake _ ?_; refine wpList_run rfl _ _ (exec_make 47 30 _ _ rfl _ 3 40 Try.underlying47 infRc n rfl rfl HMK.out.1 HMK.out.2) ?_)
  have hcz : (Value.agg #[.int .u64 0, .slice none 0 0, .bool false]).cells = #[.int .u64 0, .slice none 0 0, .bool false] := rfl
  (try simp only [HMC.out])
  clear hcz
  go_wp2
  go_loopw [15] (fun i wr => ∃ (k : Nat) (Q : List Im), k ≤ n ∧ i = .int .i64 (k : Int) ∧ Box (OfK w wr M g n k Q ∧ ∀ i (hi : i < M.length), i < k → M[i].bl = 160)) (fun i _ => n - (intOf i).toNat)
  case atStart => exact ⟨0, [], Nat.zero_le _, rfl, ⟨HK0.out, fun i hi h => by omega⟩⟩
  case round =>
    obtain ⟨k, Q, hk, rfl, HK⟩ := hrel
    by_cases hlt : k < n
    · by_cases hgood : (M[k]'(by have := HN.out; omega)).bl = 160
      rotate_left
      · have hlt1 : decide ((k : Int) < (n : Int)) = true := by simp; omega
        have hkm : k < M.length := by omega
        have hF := HOK.out.2 wr k Q HK.out.1 hkm
        have HST : Box (∀ wx m', Below wr.heap.size wr wx → pl m' = pl M[k] → OIm wx w.heap.size m' → ∃ Q', OfK w (wx.setCells g (k * 3) (imc m')) M g n (k + 1) Q') := ⟨fun wx m' h1 h2 h3 => ⟨_, HK.out.1.step HOK.out.1 hlt h1 m' h2 h3⟩⟩
        obtain ⟨⟨blk, ba, bl, bc, bs⟩, hmm⟩ : ∃ m, M[k] = m := ⟨_, rfl⟩
        rw [hmm] at hF HST
        simp only at hF
        have HR : Box (wr.rangeAt b (o + k * 2) [.int .u64 blk, .slice ba bl bc]) := ⟨hF.1⟩
        have HF2 : Box (∀ x, Below wr.heap.size wr x → Bytes x ba bl bs) := ⟨fun x hx => hF.2.1.below hx⟩
        have HF3 : Box (N64 blk ∧ ¬ bl = 160) := ⟨hF.2.2.1, by rw [hmm] at hgood; exact hgood⟩
        have HROW : Box (∀ x, Below wr.heap.size wr x → x.there g (k * 3) 2) := ⟨fun x hx => there_row ((hx.block g (Array.getElem?_eq_some_iff.1 HK.out.1.row).1).trans HK.out.1.row) (by
          have := flat_len rcc 3 (fun _ => rfl) (Q.map rf ++ List.replicate (n - k) zrc)
          simp only [List.length_append, List.length_map, List.length_replicate, HK.out.1.len] at this
          simp only [List.size_toArray]
          rw [this]
          omega)⟩
        have HBL : Box (w.heap.size ≤ wr.heap.size) := ⟨HK.out.1.bel.size⟩
        have HLT : Box (k < n) := ⟨hlt⟩
        have HWH : Box (((bl : Int) == 160) = false) := ⟨by simp; exact fun e => HF3.out.2 (by omega)⟩
        have hw4 : IntKind.i64.wrap ((k : Int) + 1) = ((k + 1 : Nat) : Int) := by rw [IntKind.wrap_i64]; omega
        clear hF hmm hkm hgood
        go_upto_region 7 with (first
          | (refine atIdx 27 ?_; refine wpList_run rfl _ _ (exec_idxT 27 25 Try.underlying27 2 infoIm _ _ rfl b o n cap k rfl rfl HLT.out) ?_)
          | (refine atLoad 25 ?_; refine wpList_ldMid rfl 25 _ _ rfl Try.underlying25 rfl b (o + k * 2) rfl [.int .u64 blk, .slice ba bl bc] infoIm HR.out ?_)
          | (refine atAlloc _ ?_; refine wpList_run rfl _ _ (exec_alloc 25 rfl _ zeroIm) ?_)
          | (refine atStore _ ?_; refine wpList_newRow wr #[.int .u64 0, .slice none 0 0] #[.int .u64 blk, .slice ba bl bc] infoIm rfl (by simp [Value.oneCell']) rfl _ _ rfl rfl rfl rfl ?_; intro x1 h1 hb1; have H1 : Box (x1.heap[wr.heap.size]? = some (.cells #[.int .u64 blk, .slice ba bl bc] 25 (0, 0)) ∧ Below wr.heap.size wr x1) := ⟨h1, hb1⟩; clear h1 hb1))
        obtain ⟨B, hB⟩ : ∃ B, wr.heap.size = B := ⟨_, rfl⟩
        simp only [hB]
        have HBX : Box (∀ x, Below x1.heap.size x1 x → x.rangeAt B 0 [.int .u64 blk, .slice ba bl bc] ∧ Below wr.heap.size wr x) := ⟨fun x hx => by
          have h3 := H1.out
          rw [hB] at h3
          have r := (hx.block B (Array.getElem?_eq_some_iff.1 h3.1).1).trans h3.1
          exact ⟨range_arr r _ (fun j v hv => by simpa using hv), below_to H1.out.2 hx⟩⟩
        have HR1 : Box (x1.rangeAt B 0 [.int .u64 blk, .slice ba bl bc]) := ⟨(HBX.out x1 (Below.refl _ _)).1⟩
        clear hB
        go_wp2_with (first
          | (refine atLoad 25 ?_; refine wpList_ldMid rfl 25 _ _ rfl Try.underlying25 rfl B 0 rfl [.int .u64 blk, .slice ba bl bc] infoIm HR1.out ?_)
          | (go_at_call 21; refine (whole_any ⟨blk, ba, bl, bc, bs⟩ false HWH.out _).mono ?_; rintro e x2 ⟨rfl, hbx⟩; have H2 : Box (Below x1.heap.size x1 x2) := ⟨hbx⟩; clear hbx))
        go_ret2
        exact ⟨rfl, below_to HK.out.1.bel (HBX.out x2 H2.out).2⟩
      have HGD : Box (∀ i (hi : i < M.length), i < k + 1 → M[i].bl = 160) := ⟨fun i hi h => by
        by_cases e : i = k
        · subst e; exact hgood
        · exact HK.out.2 i hi (by omega)⟩
      have hlt1 : decide ((k : Int) < (n : Int)) = true := by simp; omega
      have hkm : k < M.length := by omega
      have hF := HOK.out.2 wr k Q HK.out.1 hkm
      have HST : Box (∀ wx m', Below wr.heap.size wr wx → pl m' = pl M[k] → OIm wx w.heap.size m' → ∃ Q', OfK w (wx.setCells g (k * 3) (imc m')) M g n (k + 1) Q') := ⟨fun wx m' h1 h2 h3 => ⟨_, HK.out.1.step HOK.out.1 hlt h1 m' h2 h3⟩⟩
      obtain ⟨⟨blk, ba, bl, bc, bs⟩, hmm⟩ : ∃ m, M[k] = m := ⟨_, rfl⟩
      rw [hmm] at hF HST
      simp only at hF
      have HR : Box (wr.rangeAt b (o + k * 2) [.int .u64 blk, .slice ba bl bc]) := ⟨hF.1⟩
      have HF2 : Box (∀ x, Below wr.heap.size wr x → Bytes x ba bl bs) := ⟨fun x hx => hF.2.1.below hx⟩
      have HF3 : Box (N64 blk ∧ bl = 160) := ⟨hF.2.2.1, by rw [hmm] at hgood; exact hgood⟩
      have HROW : Box (∀ x, Below wr.heap.size wr x → x.there g (k * 3) 2) := ⟨fun x hx => there_row ((hx.block g (Array.getElem?_eq_some_iff.1 HK.out.1.row).1).trans HK.out.1.row) (by
        have := flat_len rcc 3 (fun _ => rfl) (Q.map rf ++ List.replicate (n - k) zrc)
        simp only [List.length_append, List.length_map, List.length_replicate, HK.out.1.len] at this
        simp only [List.size_toArray]
        rw [this]
        omega)⟩
      have HBL : Box (w.heap.size ≤ wr.heap.size) := ⟨HK.out.1.bel.size⟩
      have HLT : Box (k < n) := ⟨hlt⟩
      have HWH : Box (((bl : Int) == 160) = true) := ⟨by rw [HF3.out.2]; rfl⟩
      have hw4 : IntKind.i64.wrap ((k : Int) + 1) = ((k + 1 : Nat) : Int) := by rw [IntKind.wrap_i64]; omega
      clear hF hmm hkm hgood
      go_upto_region 7 with (first
        | (refine atIdx 27 ?_; refine wpList_run rfl _ _ (exec_idxT 27 25 Try.underlying27 2 infoIm _ _ rfl b o n cap k rfl rfl HLT.out) ?_)
        | (refine atLoad 25 ?_; refine wpList_ldMid rfl 25 _ _ rfl Try.underlying25 rfl b (o + k * 2) rfl [.int .u64 blk, .slice ba bl bc] infoIm HR.out ?_)
        | (refine atAlloc _ ?_; refine wpList_run rfl _ _ (exec_alloc 25 rfl _ zeroIm) ?_)
        | (refine atStore _ ?_; refine wpList_newRow wr #[.int .u64 0, .slice none 0 0] #[.int .u64 blk, .slice ba bl bc] infoIm rfl (by simp [Value.oneCell']) rfl _ _ rfl rfl rfl rfl ?_; intro x1 h1 hb1; have H1 : Box (x1.heap[wr.heap.size]? = some (.cells #[.int .u64 blk, .slice ba bl bc] 25 (0, 0)) ∧ Below wr.heap.size wr x1) := ⟨h1, hb1⟩; clear h1 hb1))
      obtain ⟨B, hB⟩ : ∃ B, wr.heap.size = B := ⟨_, rfl⟩
      simp only [hB]
      have HBX : Box (∀ x, Below x1.heap.size x1 x → x.rangeAt B 0 [.int .u64 blk, .slice ba bl bc] ∧ Below wr.heap.size wr x) := ⟨fun x hx => by
        have h3 := H1.out
        rw [hB] at h3
        have r := (hx.block B (Array.getElem?_eq_some_iff.1 h3.1).1).trans h3.1
        exact ⟨range_arr r _ (fun j v hv => by simpa using hv), below_to H1.out.2 hx⟩⟩
      have HR1 : Box (x1.rangeAt B 0 [.int .u64 blk, .slice ba bl bc]) := ⟨(HBX.out x1 (Below.refl _ _)).1⟩
      clear hB
      go_upto_region 9 with (first
        | (refine atLoad 25 ?_; refine wpList_ldMid rfl 25 _ _ rfl Try.underlying25 rfl B 0 rfl [.int .u64 blk, .slice ba bl bc] infoIm HR1.out ?_)
        | (go_at_call 21; refine (whole_any ⟨blk, ba, bl, bc, bs⟩ true HWH.out _).mono ?_; rintro e x2 ⟨rfl, hbx⟩; have H2 : Box (Below x1.heap.size x1 x2) := ⟨hbx⟩; clear hbx))
      have HR2 : Box (x2.rangeAt B 0 [.int .u64 blk, .slice ba bl bc]) := ⟨(HBX.out x2 H2.out).1⟩
      have HOW : Box (Calls Try.prog 26 #[.agg #[.int .u64 blk, .slice ba bl bc]] x2 fun e w' => ∃ m', e = .returned (.agg (imc m').toArray) ∧ Owned x2 w' ⟨blk, ba, bl, bc, bs⟩ m') := ⟨own_any ⟨blk, ba, bl, bc, bs⟩ x2 (HF2.out x2 (HBX.out x2 H2.out).2) HF3.out.1 (by show bl < 1000000; rw [HF3.out.2]; decide)⟩
      clear HR1
      go_wp2_with (first
        | (refine atLoad 25 ?_; refine wpList_ldMid rfl 25 _ _ rfl Try.underlying25 rfl B 0 rfl [.int .u64 blk, .slice ba bl bc] infoIm HR2.out ?_)
        | (go_at_call 26; refine HOW.out.mono ?_; rintro e x3 ⟨⟨mb, ma, ml, mc, ms⟩, rfl, hO⟩; have H3 : Box (Below wr.heap.size wr x3 ∧ pl ⟨mb, ma, ml, mc, ms⟩ = pl ⟨blk, ba, bl, bc, bs⟩ ∧ OIm x3 w.heap.size ⟨mb, ma, ml, mc, ms⟩) := ⟨below_to (HBX.out x2 H2.out).2 hO.2.2.2, hO.1, hO.2.2.1.low (by have := (HBX.out x2 H2.out).2.size; have := HBL.out; omega)⟩; clear hO)
        | (refine atIdx 47 ?_; refine wpList_run rfl _ _ (exec_idxT 47 30 Try.underlying47 3 infoRc _ _ rfl g 0 n n k rfl rfl HLT.out) ?_; rw [Nat.zero_add])
        | (refine atStore _ ?_; refine wpList_stMid rfl 25 _ _ rfl g (k * 3) #[.int .u64 mb, .slice ma ml mc] rfl rfl (HROW.out x3 H3.out.1) infoIm (by simp [Value.oneCell']) ?_))
      obtain ⟨Q', hQ'⟩ := HST.out x3 ⟨mb, ma, ml, mc, ms⟩ H3.out.1 H3.out.2.1 H3.out.2.2
      go_roundw
      case rel => exact ⟨k + 1, Q', HLT.out, by go_num, ⟨hQ', HGD.out⟩⟩
      case measure => simp [intOf]; have := HLT.out; omega
    · exfalso
      obtain ⟨m, hm, hne⟩ := HM.out.2.2
      obtain ⟨i, hi, rfl⟩ := List.getElem_of_mem hm
      exact hne (HK.out.2 i hi (by have := HN.out; omega))
/-- The reference's records so far. -/
structure RoK (w wr : World) (P : List (Int × List Int)) (k : Nat) (v : Value) : Prop where
  row : wr.ownsRow w.heap.size 39 3 v k (((ofP P).take k).map rrc).flatten
  bel : Below w.heap.size w wr
set_option maxRecDepth 20000 in
set_option maxHeartbeats 2000000 in
theorem rof_ok (a : Option Addr) (cap : Nat) (P : List (Int × List Int)) (w : World) (h : Tb w a 2 ic P) (hl : P.length ≤ 1000) (h0 : 0 < P.length) (hall : ∀ x ∈ P, x.2.length = 160) :
    Calls Try.prog 16 #[.slice a P.length cap] w fun e w' => ∃ v, e = .returned (.tuple #[v, .int .i64 0]) ∧ RoK w w' P P.length v := by
  obtain ⟨b, o, rfl, hbl, hr⟩ := h h0
  obtain ⟨n, hn⟩ : ∃ n, P.length = n := ⟨_, rfl⟩
  rw [hn] at hl h0 ⊢
  have HN : Box (P.length = n ∧ ∀ x ∈ P, x.2.length = 160) := ⟨hn, hall⟩
  have hz : ((n : Int) == 0) = false := by simp; omega
  have HR : Box (∀ x, Below w.heap.size w x → ∀ k (hk : k < P.length), x.rangeAt b (o + k * 2) (ic P[k])) := ⟨fun x hx k hk => range_below hx (hr k hk) hbl⟩
  clear h hr hall
  go_enter Try.func16, Try.ntmps16
  go_wp2
  go_loopw [4, 5] (fun v i wr => ∃ k : Nat, k ≤ n ∧ i = .int .i64 (k : Int) ∧ Box (RoK w wr P k v)) (fun _ i _ => n - (intOf i).toNat)
  case atStart => exact ⟨0, Nat.zero_le _, rfl, ⟨⟨World.ownsRow_nil _ _ _ _, Below.refl _ _⟩⟩⟩
  case round =>
    obtain ⟨k, hk, rfl, HK⟩ := hrel
    by_cases hlt : k < n
    · have hlt1 : decide ((k : Int) < (n : Int)) = true := by simp; omega
      have hkP : k < P.length := by have := HN.out.1; omega
      have hrk := HR.out wr HK.out.bel k hkP
      have hle := HN.out.2 P[k] (List.getElem_mem hkP)
      have hof : (ofP P)[k]'(by rw [len_ofP]; exact hkP) = (P[k], decide (k + 1 = n)) := by simp [ofP, HN.out.1]
      obtain ⟨⟨blk, L⟩, hpp⟩ : ∃ x, P[k] = x := ⟨_, rfl⟩
      rw [hpp] at hrk hle hof
      obtain ⟨s, hs⟩ : ∃ s, strOfNums L = s := ⟨_, rfl⟩
      have hsz : s.size = 160 := by rw [← hs, str_size]; exact hle
      have HRg : Box (wr.rangeAt b (o + k * 2) [.int .u64 blk, .string s]) := ⟨by rw [← hs]; exact hrk⟩
      have hc1 : wr.cell? ⟨b, o + k * 2 + 1, none⟩ = some (.string s) := HRg.out 1 _ rfl
      obtain ⟨bb, hbb⟩ : ∃ bb, decide (k + 1 = n) = bb := ⟨_, rfl⟩
      have hb2 : (((k : Int) + 1) == (n : Int)) = bb := by rw [← hbb, Bool.eq_iff_iff]; simp; omega
      have HST : Box (∀ w' v', w'.ownsRow w.heap.size 39 3 v' (k + 1) ((((ofP P).take k).map rrc).flatten ++ [.int .u64 blk, .string s, .bool bb]) → wr.grownBy w' u4.ownBlock → RoK w w' P (k + 1) v') := ⟨fun w' v' h1 h2 => by
        have hk2 : k < (ofP P).length := by rw [len_ofP]; exact hkP
        refine ⟨?_, HK.out.bel.grown h2 HK.out.bel.size (fun j hj => (own_blk HK.out.row j hj).1)⟩
        rw [List.take_succ_eq_append_getElem hk2, hof, hbb]
        simp only [List.map_append, List.map_cons, List.map_nil, List.flatten_append, List.flatten_cons, List.flatten_nil, List.append_nil]
        have e : rrc ((blk, L), bb) = [.int .u64 blk, .string s, .bool bb] := by rw [← hs]; rfl
        rw [e]
        exact h1⟩
      have HLT : Box (k < n) := ⟨hlt⟩
      have HOW : Box (w.heap.size ≤ wr.heap.size ∧ k ≤ 1000000) := ⟨HK.out.bel.size, by omega⟩
      have hw4 : IntKind.i64.wrap ((k : Int) + 1) = ((k : Int) + 1) := by rw [IntKind.wrap_i64]; omega
      clear hrk hle hof hpp hs hbb hkP
      go_wp2_with (first
        | (refine atIdx 53 ?_; refine wpList_run rfl _ _ (exec_idxT 53 37 Try.underlying53 2 infoI _ _ rfl b o n cap k rfl rfl HLT.out) ?_)
        | (refine atLoad 37 ?_; refine wpList_ldMid rfl 37 _ _ rfl Try.underlying37 rfl b (o + k * 2) rfl [.int .u64 blk, .string s] infoI HRg.out ?_)
        | (refine atBuild 39 ?_; refine wpList_run rfl _ _ (exec_built 39 [(0, .tmp 26), (1, .tmp 31)] rfl [(0, .agg #[.int .u64 blk, .string s]), (1, .bool bb)] rfl _ (built_Rr _ _ _)) ?_)
        | (at_builtin; refine wpList_appR 50 39 Try.underlying50 3 32 _ infRr rfl (by decide) rfl (.tmp 22) (.tmp 33) rfl w.heap.size k u4 (((ofP P).take k).map rrc).flatten [.int .u64 blk, .string s, .bool bb] wr rfl rfl rfl HK.out.row rfl (by simp [Value.oneCell']) HOW.out.2 (by decide) (by decide) HOW.out.1 ?_; intro v3 x3 hown hgr; have H3 : Box (RoK w x3 P (k + 1) v3) := ⟨HST.out x3 v3 hown hgr⟩; clear hown hgr))
      go_roundw
      case rel => exact ⟨k + 1, HLT.out, by go_num, H3⟩
      case measure => simp [intOf]; have := HLT.out; omega
    · obtain rfl : k = n := by omega
      have hlt1 : decide ((k : Int) < (k : Int)) = false := by simp
      go_wp2
      go_ret2
      exact ⟨_, rfl, HK.out⟩
end Go.Proofs.Ytgdjdlakndajgaa
