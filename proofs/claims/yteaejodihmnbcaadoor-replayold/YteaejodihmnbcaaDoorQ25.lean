/-
  Of of package record where it refuses; the reference's Of and Changes. And what follows it.
-/
import Derived.Test.YteaejodihmnbcaaDoorQ24
import Derived.Test.YteaejodihmnbcaaDoorQ23
namespace Go.Proofs.YteaejodihmnbcaaDoor
set_option maxRecDepth 100000
set_option linter.unusedVariables false
open Go.RowKit Plain
theorem len_ofP (L : List (Int × List Int)) : (ofP L).length = L.length := by simp [ofP]
/-- Appending to a row of one's own leaves it in its block, or in a new one. -/
theorem run_app {P : Program} (w : World) (t ty e : TypeId) (i : TypeInfo) (z : Value) (size bytes : Nat) (ht : P.underlying t = some (.slice e)) (hi : P.info? e = some i) (hz : i.zero = some z)
    (hsize : i.size = size) (hby : i.bytes = bytes) (hzs : z.cells.size = size) (hsz : 0 < size) (v : Value) (n : Nat) (xs : List Value) (hown : w.ownsRow 0 e size v n xs)
    (a : Addr) (m c : Nat) (news : List Value) (hl : news.length = m * size) (hnews : ∀ j u, news[j]? = some u → w.cell? (a.add j) = some u) (h1 : ∀ u ∈ news, u.oneCell' = true)
    (h63 : n + m ≤ maxLen) (hbytes : (n + m) * bytes ≤ 140737488355328) :
    ∃ v' w', (Builtin.append_ #[t, t] ty #[v, .slice (some a) m c]).run P w = .ok v' w' ∧ w'.ownsRow 0 e size v' (n + m) (xs ++ news) ∧ w.grownBy w' v.ownBlock ∧ ∀ k, v'.ownBlock = some k → v.ownBlock = some k ∨ w.heap.size ≤ k := by
  obtain ⟨v', w', hr, h2, h3, h4⟩ := run_append_own (P := P) w 0 t ty e i z size bytes ht hi hz hsize hby hzs hsz v n xs hown a m c news hl hnews h1 h63 hbytes (Nat.zero_le _)
  refine ⟨v', w', hr, h2, h3, ?_⟩
  rcases hown.2 with ⟨rfl, rfl⟩ | ⟨g, cap, cur, rfl, hbg, hg, hnc, hcm, hcs, htake⟩
  · have hx : xs = [] := List.eq_nil_of_length_eq_zero (by simpa using hown.1)
    subst hx
    obtain ⟨v2, w2, hr2, h22, _⟩ := run_append_own (P := P) w w.heap.size t ty e i z size bytes ht hi hz hsize hby hzs hsz _ 0 [] (World.ownsRow_nil w w.heap.size e size) a m c news hl hnews h1 h63 hbytes (Nat.le_refl _)
    rw [hr] at hr2
    simp only [Result.ok.injEq] at hr2
    obtain ⟨rfl, rfl⟩ := hr2
    exact fun k hk => .inr (h22.lt k hk).1
  · subst hsize
    subst hby
    by_cases hroom : n + m ≤ cap
    · have hfit : n * i.size + news.length ≤ cur.size := by rw [hl, hcs, ← Nat.add_mul]; exact Nat.mul_le_mul_right _ hroom
      have hr2 := run_append_room (P := P) w t ty e i ht hi g n cap cur hg a m c news hl hnews h1 hroom hfit
      rw [hr] at hr2
      simp only [Result.ok.injEq] at hr2
      obtain ⟨rfl, rfl⟩ := hr2
      exact fun k hk => .inl hk
    · have hsmall : n + m ≤ 9223372036854775807 := by simp only [maxLen] at h63; omega
      have holds : ∀ j u, xs[j]? = some u → w.cell? ((⟨g, 0, none⟩ : Addr).add j) = some u := hown.cells (g := g) rfl
      have hr2 := run_append_grow (P := P) w t ty e i z ht hi hz ⟨g, 0, none⟩ n cap xs hown.1 holds a m c news hl hnews (by omega) (by omega) (growslice_fits (by omega) hbytes)
      rw [hr] at hr2
      simp only [Result.ok.injEq] at hr2
      obtain ⟨rfl, rfl⟩ := hr2
      exact fun k hk => .inr (by simp [Value.ownBlock] at hk; omega)
theorem own_up {w : World} {B n : Nat} {e : TypeId} {sz : Nat} {v : Value} {xs : List Value} (h : w.ownsRow 0 e sz v n xs) (hb : ∀ k, v.ownBlock = some k → B ≤ k) : w.ownsRow B e sz v n xs := by
  refine ⟨h.1, ?_⟩
  rcases h.2 with hn | ⟨g, cap, cur, rfl, _, rest⟩
  · exact .inl hn
  · exact .inr ⟨g, cap, cur, rfl, hb g rfl, rest⟩
/-- One thing appended to a row of one's own: in its block, or in a new one. -/
theorem wpList_appS {ops : Array Oper} {rest : List Oper} {o : Oper} {act : Act} {w : World} {Q : Exit → Act → World → Prop} (t e : TypeId) (ht : Tryd.prog.underlying t = some (.slice e)) (sz bytes : Nat) (z : Value) (hi : (Tryd.prog.info? e).map (fun i => (i.zero, i.size, i.bytes)) = some (some z, sz, bytes)) (hzs : z.cells.size = sz) (hsz : 0 < sz) (hgd : o.guard = none) (s x : Operand)
    (ho : o.op = .call { callee := .builtin .append, args := #[s, x], argTypes := #[t, t] }) (B n : Nat) (v : Value) (xs cs : List Value) (wn : World) (hs : act.eval s = v) (hx : act.eval x = .slice (some ⟨wn.heap.size, 0, none⟩) 1 1) (hw : w = wn.alloc (.cells cs.toArray e)) (hown : wn.ownsRow B e sz v n xs) (hcs : cs.length = sz) (h1 : ∀ u ∈ cs, u.oneCell' = true) (hn : n ≤ 1000000) (hby : bytes ≤ 1000) (hB : B ≤ wn.heap.size)
    (h : ∀ v' w', w'.ownsRow B e sz v' (n + 1) (xs ++ cs) → wn.grownBy w' v.ownBlock → (∀ k, v'.ownBlock = some k → v.ownBlock = some k ∨ wn.heap.size ≤ k) → wpList Tryd.prog ops Q rest (act.put o.dst v') w') : wpList Tryd.prog ops Q (o :: rest) act w := by
  obtain ⟨i0, hi1, hz0, hz1, hz2⟩ := info_parts hi
  subst hw
  have hm : (n + 1) * bytes ≤ 140737488355328 := Nat.le_trans (Nat.mul_le_mul (show n + 1 ≤ 1000001 by omega) hby) (by decide)
  obtain ⟨v', w', hr, h2, h3, h4⟩ := run_app (P := Tryd.prog) (wn.alloc (.cells cs.toArray e)) t o.type e i0 z sz bytes ht hi1 hz0 hz1 hz2 hzs hsz v n xs (own_low2 (own_to hown ((Below.refl _ _).alloc (Nat.le_refl _) _)) (Nat.zero_le _)) ⟨wn.heap.size, 0, none⟩ 1 1 cs (by rw [hcs, Nat.one_mul]) (news_new wn cs e) h1 (by unfold maxLen; omega) hm
  have h4' : ∀ k, v'.ownBlock = some k → v.ownBlock = some k ∨ wn.heap.size ≤ k := fun k hk => (h4 k hk).imp id (fun h => by simp at h; omega)
  refine wpList_plain hgd fun _ hK => ?_
  unfold Oper.wp execOp
  simp only [ho, resolve, invoke, builtin, Sem.run_bind, Sem.run_pure, Result.andThen_ok, List.map_toArray, List.map_cons, List.map_nil, hs, hx, hr]
  exact hK _ _ (h v' w' (own_up h2 (fun k hk => (h4' k hk).elim (fun e => (own_blk hown k e).1) (fun e => by omega))) (grown_alloc h3) h4')
set_option maxRecDepth 20000 in
set_option maxHeartbeats 2000000 in
theorem of_bad (a : Option Addr) (cap : Nat) (M : List Im) (w : World) (h : Imgs w a M) (hl : M.length ≤ 1000) (h0 : 0 < M.length) (hall : ∃ m ∈ M, m.bl ≠ 160) (hmx : ∀ m ∈ M, m.bl ≤ 100000) :
    Calls Tryd.prog 28 #[.slice a M.length cap] w fun e w' => e = .returned (.tuple #[.slice none 0 0, .int .i64 1]) ∧ Below w.heap.size w w' := by
  have HM : Box ((∀ x, Below w.heap.size w x → Imgs x a M) ∧ (∀ m ∈ M, m.bl ≤ 100000) ∧ ∃ m ∈ M, m.bl ≠ 160) := ⟨fun x hx => h.below hx, hmx, hall⟩
  obtain ⟨b, o, rfl, hbl, hr⟩ := h.tb h0
  obtain ⟨n, hn⟩ : ∃ n, M.length = n := ⟨_, rfl⟩
  rw [hn] at hl h0 ⊢
  have HN : Box (M.length = n) := ⟨hn⟩
  have hz : ((n : Int) == 0) = false := by simp; omega
  have HMK : Box (40 * n ≤ 281474976710656 ∧ n ≤ 9223372036854775807) := ⟨by omega, by omega⟩
  obtain ⟨g, hg⟩ : ∃ g, w.heap.size = g := ⟨_, rfl⟩
  obtain ⟨w1, hw1⟩ : ∃ w1, w.alloc (.cells ((List.replicate n zrc).map rcc).flatten.toArray 81) = w1 := ⟨_, rfl⟩
  have HK0 : Box (OfK w w1 M g n 0 []) := ⟨⟨by rw [← hw1]; simp only [List.map_nil, List.nil_append, Nat.sub_zero]; exact al_at hg, rfl, by simp, fun m hm => by simp at hm, by rw [← hw1]; exact (Below.refl _ _).alloc (Nat.le_refl _) _, Nat.le_of_eq hg⟩⟩
  have HMC : Box (w.alloc (.cells (madeCells #[.int .u64 0, .slice none 0 0, .bool false] (n * 3)) 81) = w1) := ⟨by rw [← hw1, made_flat rcc 3 (fun _ => rfl) (by decide) zrc #[.int .u64 0, .slice none 0 0, .bool false] rfl n]⟩
  have HOK : Box (M.length = n ∧ ∀ wr k Q, OfK w wr M g n k Q → ∀ hk : k < M.length, wr.rangeAt b (o + k * 2) (imc M[k]) ∧ Bytes wr M[k].ba M[k].bl M[k].bs ∧ N64 M[k].blk ∧ M[k].bl ≤ 100000 ∧ b < wr.heap.size) := ⟨hn, fun wr k Q hK hk => by
    have hb := (HM.out.1 wr hK.bel).byt M[k] (List.getElem_mem hk)
    exact ⟨range_below hK.bel (hr k hk) hbl, hb.1, hb.2.1, HM.out.2.1 _ (List.getElem_mem hk), Nat.lt_of_lt_of_le hbl hK.bel.size⟩⟩
  clear h hall hmx hr hw1
  go_enter Tryd.func28, Tryd.ntmps28
  go_upto_region 4 with (refine atMake _ ?_; refine wpList_run rfl _ _ (exec_make 76 81 _ _ rfl _ 3 40 Tryd.underlying76 infRc n rfl rfl HMK.out.1 HMK.out.2) ?_)
  have hcz : (Value.agg #[.int .u64 0, .slice none 0 0, .bool false]).cells = #[.int .u64 0, .slice none 0 0, .bool false] := rfl
  (try simp only [HMC.out])
  clear hcz
  go_wp2
  go_loopw [15] (fun i wr => ∃ (k : Nat) (Q : List Im), k ≤ n ∧ i = .int .i64 (k : Int) ∧ Box (OfK w wr M g n k Q ∧ ∀ i (hi : i < M.length), i < k → M[i].bl = 160)) (fun i _ => n - (intOf i).toNat)
  case atStart => exact ⟨0, [], Nat.zero_le _, rfl, ⟨HK0.out, fun i hi h => by omega⟩⟩
  case round =>
    obtain ⟨k, Q, hk, rfl, HK⟩ := hrel
    by_cases hlt : k < n
    · by_cases hgood : (M[k]'(by have := HN.out; omega)).bl = 160
      rotate_left
      · have hlt1 : decide ((k : Int) < (n : Int)) = true := by simp; omega
        have hkm : k < M.length := by omega
        have hF := HOK.out.2 wr k Q HK.out.1 hkm
        have HST : Box (∀ wx m', Below wr.heap.size wr wx → pl m' = pl M[k] → OIm wx w.heap.size m' → ∃ Q', OfK w (wx.setCells g (k * 3) (imc m')) M g n (k + 1) Q') := ⟨fun wx m' h1 h2 h3 => ⟨_, HK.out.1.step HOK.out.1 hlt h1 m' h2 h3⟩⟩
        obtain ⟨⟨blk, ba, bl, bc, bs⟩, hmm⟩ : ∃ m, M[k] = m := ⟨_, rfl⟩
        rw [hmm] at hF HST
        simp only at hF
        have HR : Box (wr.rangeAt b (o + k * 2) [.int .u64 blk, .slice ba bl bc]) := ⟨hF.1⟩
        have HF2 : Box (∀ x, Below wr.heap.size wr x → Bytes x ba bl bs) := ⟨fun x hx => hF.2.1.below hx⟩
        have HF3 : Box (N64 blk ∧ ¬ bl = 160) := ⟨hF.2.2.1, by rw [hmm] at hgood; exact hgood⟩
        have HROW : Box (∀ x, Below wr.heap.size wr x → x.there g (k * 3) 2) := ⟨fun x hx => there_row ((hx.block g (Array.getElem?_eq_some_iff.1 HK.out.1.row).1).trans HK.out.1.row) (by
          have := flat_len rcc 3 (fun _ => rfl) (Q.map rf ++ List.replicate (n - k) zrc)
          simp only [List.length_append, List.length_map, List.length_replicate, HK.out.1.len] at this
          simp only [List.size_toArray]
          rw [this]
          omega)⟩
        have HBL : Box (w.heap.size ≤ wr.heap.size) := ⟨HK.out.1.bel.size⟩
        have HLT : Box (k < n) := ⟨hlt⟩
        have HWH : Box (((bl : Int) == 160) = false) := ⟨by simp; exact fun e => HF3.out.2 (by omega)⟩
        have hw4 : IntKind.i64.wrap ((k : Int) + 1) = ((k + 1 : Nat) : Int) := by rw [IntKind.wrap_i64]; omega
        clear hF hmm hkm hgood
        go_upto_region 7 with (first
          | (refine atIdx 24 ?_; refine wpList_run rfl _ _ (exec_idxT 24 36 Tryd.underlying24 2 infoIm _ _ rfl b o n cap k rfl rfl HLT.out) ?_)
          | (refine atLoad 36 ?_; refine wpList_ldMid rfl 36 _ _ rfl Tryd.underlying36 rfl b (o + k * 2) rfl [.int .u64 blk, .slice ba bl bc] infoIm HR.out ?_)
          | (refine atAlloc _ ?_; refine wpList_run rfl _ _ (exec_alloc 36 rfl _ zeroIm) ?_)
          | (refine atStore _ ?_; refine wpList_newRow wr #[.int .u64 0, .slice none 0 0] #[.int .u64 blk, .slice ba bl bc] infoIm rfl (by simp [Value.oneCell']) rfl _ _ rfl rfl rfl rfl ?_; intro x1 h1 hb1; have H1 : Box (x1.heap[wr.heap.size]? = some (.cells #[.int .u64 blk, .slice ba bl bc] 36 (0, 0)) ∧ Below wr.heap.size wr x1) := ⟨h1, hb1⟩; clear h1 hb1))
        obtain ⟨B, hB⟩ : ∃ B, wr.heap.size = B := ⟨_, rfl⟩
        simp only [hB]
        have HBX : Box (∀ x, Below x1.heap.size x1 x → x.rangeAt B 0 [.int .u64 blk, .slice ba bl bc] ∧ Below wr.heap.size wr x) := ⟨fun x hx => by
          have h3 := H1.out
          rw [hB] at h3
          have r := (hx.block B (Array.getElem?_eq_some_iff.1 h3.1).1).trans h3.1
          exact ⟨range_arr r _ (fun j v hv => by simpa using hv), below_to H1.out.2 hx⟩⟩
        have HR1 : Box (x1.rangeAt B 0 [.int .u64 blk, .slice ba bl bc]) := ⟨(HBX.out x1 (Below.refl _ _)).1⟩
        clear hB
        go_wp2_with (first
          | (refine atLoad 36 ?_; refine wpList_ldMid rfl 36 _ _ rfl Tryd.underlying36 rfl B 0 rfl [.int .u64 blk, .slice ba bl bc] infoIm HR1.out ?_)
          | (go_at_call 42; refine (whole_any ⟨blk, ba, bl, bc, bs⟩ false HWH.out _).mono ?_; rintro e x2 ⟨rfl, hbx⟩; have H2 : Box (Below x1.heap.size x1 x2) := ⟨hbx⟩; clear hbx))
        go_ret2
        exact ⟨rfl, below_to HK.out.1.bel (HBX.out x2 H2.out).2⟩
      have HGD : Box (∀ i (hi : i < M.length), i < k + 1 → M[i].bl = 160) := ⟨fun i hi h => by
        by_cases e : i = k
        · subst e; exact hgood
        · exact HK.out.2 i hi (by omega)⟩
      have hlt1 : decide ((k : Int) < (n : Int)) = true := by simp; omega
      have hkm : k < M.length := by omega
      have hF := HOK.out.2 wr k Q HK.out.1 hkm
      have HST : Box (∀ wx m', Below wr.heap.size wr wx → pl m' = pl M[k] → OIm wx w.heap.size m' → ∃ Q', OfK w (wx.setCells g (k * 3) (imc m')) M g n (k + 1) Q') := ⟨fun wx m' h1 h2 h3 => ⟨_, HK.out.1.step HOK.out.1 hlt h1 m' h2 h3⟩⟩
      obtain ⟨⟨blk, ba, bl, bc, bs⟩, hmm⟩ : ∃ m, M[k] = m := ⟨_, rfl⟩
      rw [hmm] at hF HST
      simp only at hF
      have HR : Box (wr.rangeAt b (o + k * 2) [.int .u64 blk, .slice ba bl bc]) := ⟨hF.1⟩
      have HF2 : Box (∀ x, Below wr.heap.size wr x → Bytes x ba bl bs) := ⟨fun x hx => hF.2.1.below hx⟩
      have HF3 : Box (N64 blk ∧ bl = 160) := ⟨hF.2.2.1, by rw [hmm] at hgood; exact hgood⟩
      have HROW : Box (∀ x, Below wr.heap.size wr x → x.there g (k * 3) 2) := ⟨fun x hx => there_row ((hx.block g (Array.getElem?_eq_some_iff.1 HK.out.1.row).1).trans HK.out.1.row) (by
        have := flat_len rcc 3 (fun _ => rfl) (Q.map rf ++ List.replicate (n - k) zrc)
        simp only [List.length_append, List.length_map, List.length_replicate, HK.out.1.len] at this
        simp only [List.size_toArray]
        rw [this]
        omega)⟩
      have HBL : Box (w.heap.size ≤ wr.heap.size) := ⟨HK.out.1.bel.size⟩
      have HLT : Box (k < n) := ⟨hlt⟩
      have HWH : Box (((bl : Int) == 160) = true) := ⟨by rw [HF3.out.2]; rfl⟩
      have hw4 : IntKind.i64.wrap ((k : Int) + 1) = ((k + 1 : Nat) : Int) := by rw [IntKind.wrap_i64]; omega
      clear hF hmm hkm hgood
      go_upto_region 7 with (first
        | (refine atIdx 24 ?_; refine wpList_run rfl _ _ (exec_idxT 24 36 Tryd.underlying24 2 infoIm _ _ rfl b o n cap k rfl rfl HLT.out) ?_)
        | (refine atLoad 36 ?_; refine wpList_ldMid rfl 36 _ _ rfl Tryd.underlying36 rfl b (o + k * 2) rfl [.int .u64 blk, .slice ba bl bc] infoIm HR.out ?_)
        | (refine atAlloc _ ?_; refine wpList_run rfl _ _ (exec_alloc 36 rfl _ zeroIm) ?_)
        | (refine atStore _ ?_; refine wpList_newRow wr #[.int .u64 0, .slice none 0 0] #[.int .u64 blk, .slice ba bl bc] infoIm rfl (by simp [Value.oneCell']) rfl _ _ rfl rfl rfl rfl ?_; intro x1 h1 hb1; have H1 : Box (x1.heap[wr.heap.size]? = some (.cells #[.int .u64 blk, .slice ba bl bc] 36 (0, 0)) ∧ Below wr.heap.size wr x1) := ⟨h1, hb1⟩; clear h1 hb1))
      obtain ⟨B, hB⟩ : ∃ B, wr.heap.size = B := ⟨_, rfl⟩
      simp only [hB]
      have HBX : Box (∀ x, Below x1.heap.size x1 x → x.rangeAt B 0 [.int .u64 blk, .slice ba bl bc] ∧ Below wr.heap.size wr x) := ⟨fun x hx => by
        have h3 := H1.out
        rw [hB] at h3
        have r := (hx.block B (Array.getElem?_eq_some_iff.1 h3.1).1).trans h3.1
        exact ⟨range_arr r _ (fun j v hv => by simpa using hv), below_to H1.out.2 hx⟩⟩
      have HR1 : Box (x1.rangeAt B 0 [.int .u64 blk, .slice ba bl bc]) := ⟨(HBX.out x1 (Below.refl _ _)).1⟩
      clear hB
      go_upto_region 9 with (first
        | (refine atLoad 36 ?_; refine wpList_ldMid rfl 36 _ _ rfl Tryd.underlying36 rfl B 0 rfl [.int .u64 blk, .slice ba bl bc] infoIm HR1.out ?_)
        | (go_at_call 42; refine (whole_any ⟨blk, ba, bl, bc, bs⟩ true HWH.out _).mono ?_; rintro e x2 ⟨rfl, hbx⟩; have H2 : Box (Below x1.heap.size x1 x2) := ⟨hbx⟩; clear hbx))
      have HR2 : Box (x2.rangeAt B 0 [.int .u64 blk, .slice ba bl bc]) := ⟨(HBX.out x2 H2.out).1⟩
      have HOW : Box (Calls Tryd.prog 43 #[.agg #[.int .u64 blk, .slice ba bl bc]] x2 fun e w' => ∃ m', e = .returned (.agg (imc m').toArray) ∧ Owned x2 w' ⟨blk, ba, bl, bc, bs⟩ m') := ⟨own_any ⟨blk, ba, bl, bc, bs⟩ x2 (HF2.out x2 (HBX.out x2 H2.out).2) HF3.out.1 (by show bl < 1000000; rw [HF3.out.2]; decide)⟩
      clear HR1
      go_wp2_with (first
        | (refine atLoad 36 ?_; refine wpList_ldMid rfl 36 _ _ rfl Tryd.underlying36 rfl B 0 rfl [.int .u64 blk, .slice ba bl bc] infoIm HR2.out ?_)
        | (go_at_call 43; refine HOW.out.mono ?_; rintro e x3 ⟨⟨mb, ma, ml, mc, ms⟩, rfl, hO⟩; have H3 : Box (Below wr.heap.size wr x3 ∧ pl ⟨mb, ma, ml, mc, ms⟩ = pl ⟨blk, ba, bl, bc, bs⟩ ∧ OIm x3 w.heap.size ⟨mb, ma, ml, mc, ms⟩) := ⟨below_to (HBX.out x2 H2.out).2 hO.2.2.2, hO.1, hO.2.2.1.low (by have := (HBX.out x2 H2.out).2.size; have := HBL.out; omega)⟩; clear hO)
        | (refine atIdx 76 ?_; refine wpList_run rfl _ _ (exec_idxT 76 81 Tryd.underlying76 3 infoRc _ _ rfl g 0 n n k rfl rfl HLT.out) ?_; rw [Nat.zero_add])
        | (refine atStore _ ?_; refine wpList_stMid rfl 36 _ _ rfl g (k * 3) #[.int .u64 mb, .slice ma ml mc] rfl rfl (HROW.out x3 H3.out.1) infoIm (by simp [Value.oneCell']) ?_))
      obtain ⟨Q', hQ'⟩ := HST.out x3 ⟨mb, ma, ml, mc, ms⟩ H3.out.1 H3.out.2.1 H3.out.2.2
      go_roundw
      case rel => exact ⟨k + 1, Q', HLT.out, by go_num, ⟨hQ', HGD.out⟩⟩
      case measure => simp [intOf]; have := HLT.out; omega
    · exfalso
      obtain ⟨m, hm, hne⟩ := HM.out.2.2
      obtain ⟨i, hi, rfl⟩ := List.getElem_of_mem hm
      exact hne (HK.out.2 i hi (by have := HN.out; omega))
end Go.Proofs.YteaejodihmnbcaaDoor
namespace Go.Proofs.YteaejodihmnbcaaDoor
set_option maxRecDepth 100000
set_option linter.unusedVariables false
open Go.RowKit Plain
attribute [local go_sem] Oper.semAt_some
/-- A slot: its place, and the block of its bytes. -/
structure Sl where
  p : Nat
  g : Nat
  bs : List Int
def stc (x : Sl) : List Value := [.int .u32 (x.p : Int), .slice (some ⟨x.g, 0, none⟩) 192 192]
def spl (x : Sl) : Nat × List Int := (x.p, x.bs)
theorem infStl : (Tryd.prog.info? 117).map (fun i => (i.zero, i.size, i.bytes)) = some (some (.agg #[.int .u32 0, .slice none 0 0]), 2, 32) := by kernel_rfl
theorem infoStl : (Tryd.prog.info? 117).map (·.size) = some 2 := by kernel_rfl
theorem zeroStl : (Tryd.prog.info? 117).map (·.zero) = some (some (.agg #[.int .u32 0, .slice none 0 0])) := by kernel_rfl
theorem built_Stl (p : Int) (a : Option Addr) (l c : Nat) : Tryd.prog.built 117 [(0, .int .u32 p), (1, .slice a l c)] = some #[.int .u32 p, .slice a l c] := by kernel_rfl
structure OSl (w : World) (B : Nat) (x : Sl) : Prop where
  lo : B ≤ x.g
  row : w.heap[x.g]? = some (.cells (u8s x.bs) 109 (0, 0))
  len : x.bs.length = 192
  byt : Byt x.bs
  pl : x.p ≤ 4096
/-- Slots in a row of one's own. -/
structure Slots (w : World) (B : Nat) (v : Value) (X : List Sl) : Prop where
  row : w.ownsRow B 117 2 v X.length (X.map stc).flatten
  byt : ∀ x ∈ X, OSl w B x
theorem Slots.to {w w' : World} {B : Nat} {v : Value} {X : List Sl} (h : Slots w B v X) (hb : Below w.heap.size w w') : Slots w' B v X :=
  ⟨own_to h.row hb, fun x hx => ⟨(h.byt x hx).lo, (hb.block x.g (Array.getElem?_eq_some_iff.1 (h.byt x hx).row).1).trans (h.byt x hx).row, (h.byt x hx).len, (h.byt x hx).byt, (h.byt x hx).pl⟩⟩
theorem OSl.bytes {w : World} {B : Nat} {x : Sl} (h : OSl w B x) : Bytes w (some ⟨x.g, 0, none⟩) 192 x.bs := by
  refine ⟨h.len, h.byt, fun _ => ⟨x.g, 0, rfl, (Array.getElem?_eq_some_iff.1 h.row).1, fun i hi => ?_⟩⟩
  rw [cell_of_row _ _ _ _ _ _ h.row, Nat.zero_add]
  have : i < x.bs.length := by rw [h.len]; exact hi
  simp [u8s, List.getD, this]
/-- The places that are read. -/
def pcs (f n st k : Nat) : List Nat := (List.range k).map fun i => f + (st + i) % n
theorem pcs_succ (f n st k : Nat) : pcs f n st (k + 1) = pcs f n st k ++ [f + (st + k) % n] := by simp [pcs, List.range_succ]
def rdD (d : Disk.Dk) (L : List Nat) : Disk.Dk := { d with ops := d.ops ++ L.map fun (p : Nat) => ((1 : Int), (p : Int)) }
theorem rdD_nil (d : Disk.Dk) : rdD d [] = d := by simp [rdD]
theorem rdD_snoc (d : Disk.Dk) (L : List Nat) (p : Nat) : Disk.rdOk (rdD d L) (p : Int) = rdD d (L ++ [p]) := by simp [rdD, Disk.rdOk]
theorem lat_rdD (d : Disk.Dk) (L : List Nat) (p : Nat) : Disk.lat (rdD d L) p = Disk.lat d p := rfl
/-- Where a row of another's turns. -/
theorem cx_grown {w0 w w' : World} {D : Nat} {fp : Nat → Prop} {d : Disk.Dk} {row : Option Nat} (h : Disk.Cx w0 w D fp d) (hg : w.grownBy w' row) (hn : ∀ g, row = some g → ¬ fp g ∧ w0.heap.size ≤ g) : Disk.Cx w0 w' D fp d := by
  refine ⟨h.is.same (fun k hk hl => hg.block k hl (fun e => (hn k e.symm).1 hk)), ?_, h.lo, fun k hk => Nat.lt_of_lt_of_le (h.hi k hk) hg.size⟩
  have hl := h.bel
  exact ⟨hg.os.trans hl.os, hg.tape.trans hl.tape, hg.output.trans hl.output, Nat.le_trans hl.size hg.size, fun k hk => (hg.block k (Nat.lt_of_lt_of_le hk hl.size) (fun e => by have := (hn k e.symm).2; omega)).trans (hl.block k hk)⟩
theorem fol_trans {a b c : World} {fp fp' fp'' : Nat → Prop} (h : Disk.Fol a fp b fp') (k : Disk.Fol b fp' c fp'') : Disk.Fol a fp c fp'' := by
  refine ⟨⟨k.t.os.trans h.t.os, k.t.tape.trans h.t.tape, k.t.output.trans h.t.output, Nat.le_trans h.t.size k.t.size, fun i hi hn => ?_⟩, fun i hi hn => k.k i (Nat.lt_of_lt_of_le hi h.t.size) (h.k i hi hn)⟩
  exact (k.t.block i (Nat.lt_of_lt_of_le hi h.t.size) (h.k i hi hn)).trans (h.t.block i hi hn)
/-- What is grown in new memory alone. -/
theorem fol_grown {a b c : World} {fp fp' : Nat → Prop} {row : Option Nat} (h : Disk.Fol a fp b fp') (hg : b.grownBy c row) (hn : ∀ g, row = some g → a.heap.size ≤ g) : Disk.Fol a fp c fp' :=
  ⟨⟨hg.os.trans h.t.os, hg.tape.trans h.t.tape, hg.output.trans h.t.output, Nat.le_trans h.t.size hg.size, fun i hi hf => (hg.block i (Nat.lt_of_lt_of_le hi h.t.size) (fun e => by have := hn i e.symm; omega)).trans (h.t.block i hi hf)⟩, h.k⟩
theorem fol_refl (w : World) (fp : Nat → Prop) : Disk.Fol w fp w fp := ⟨Disk.Turned.refl _ _, fun _ _ h => h⟩
/-- So far. -/
structure RdK (w0 w1 wr : World) (D : Nat) (fp : Nat → Prop) (d : Disk.Dk) (L : List Nat) (v : Value) (X : List Sl) (fpk : Nat → Prop) : Prop where
  sl : Slots wr w1.heap.size v X
  eq : X.map spl = L.map fun p => (p, Disk.lat d p)
  cx : Disk.Cx w0 wr D fpk (rdD d L)
  fol : Disk.Fol w1 fp wr fpk
  nv : ∀ g, v.ownBlock = some g → ¬ fpk g
  ng : ∀ x ∈ X, ¬ fpk x.g
theorem RdK.len {w0 w1 wr : World} {D : Nat} {fp : Nat → Prop} {d : Disk.Dk} {L : List Nat} {v : Value} {X : List Sl} {fpk : Nat → Prop} (h : RdK w0 w1 wr D fp d L v X fpk) : X.length = L.length := by
  have := congrArg List.length h.eq
  simpa using this
/-- Behind one more read: the row is as it was. -/
theorem RdK.mid {w0 w1 wr x1 : World} {D : Nat} {fp : Nat → Prop} {d : Disk.Dk} {L : List Nat} {v : Value} {X : List Sl} {fpk fp1 : Nat → Prop} (h : RdK w0 w1 wr D fp d L v X fpk) (hf : Disk.Fol wr fpk x1 fp1) : Slots x1 w1.heap.size v X ∧ (∀ g, v.ownBlock = some g → ¬ fp1 g) ∧ ∀ x ∈ X, ¬ fp1 x.g := by
  have hl := h.sl.row
  refine ⟨⟨own_same hl (fun k hk => hf.t.block k (hl.lt k hk).2 (h.nv k hk)), fun x hx => ?_⟩, fun g hg => hf.k g (hl.lt g hg).2 (h.nv g hg), fun x hx => ?_⟩
  · have o := h.sl.byt x hx
    exact ⟨o.lo, (hf.t.block x.g (Array.getElem?_eq_some_iff.1 o.row).1 (h.ng x hx)).trans o.row, o.len, o.byt, o.pl⟩
  · have o := h.sl.byt x hx
    exact hf.k x.g (Array.getElem?_eq_some_iff.1 o.row).1 (h.ng x hx)
theorem RdK.step {w0 w1 wr x1 w' : World} {D : Nat} {fp : Nat → Prop} {d : Disk.Dk} {L : List Nat} {v v' : Value} {X : List Sl} {fpk fp1 : Nat → Prop} (h : RdK w0 w1 wr D fp d L v X fpk) (p R : Nat) (hp : p ≤ 4096) (hf : Disk.Fol wr fpk x1 fp1) (hc : Disk.Cx w0 x1 D fp1 (Disk.rdOk (rdD d L) (p : Int))) (hl : Disk.Loc x1 fp1 R (Disk.lat d p) 109) (hR : wr.heap.size ≤ R) (hlen : (Disk.lat d p).length = 192 ∧ Byt (Disk.lat d p))
    (hw0 : w0.heap.size ≤ w1.heap.size) (ho : w'.ownsRow w1.heap.size 117 2 v' (X.length + 1) ((X.map stc).flatten ++ [.int .u32 (p : Int), .slice (some ⟨R, 0, none⟩) 192 192])) (hg : x1.grownBy w' v.ownBlock) (hv : ∀ k, v'.ownBlock = some k → v.ownBlock = some k ∨ x1.heap.size ≤ k) : RdK w0 w1 w' D fp d (L ++ [p]) v' (X ++ [⟨p, R, Disk.lat d p⟩]) fp1 := by
  obtain ⟨m1, m2, m3⟩ := h.mid hf
  have hs := h.fol.t.size
  have hRl : R < x1.heap.size := (Array.getElem?_eq_some_iff.1 hl.row).1
  have own0 := m1.row
  have nb : ∀ x : Sl, x1.heap[x.g]? = some (.cells (u8s x.bs) 109 (0, 0)) → v.ownBlock ≠ some x.g := fun x hx e => by
    obtain ⟨_, c1, h1⟩ := own_blk own0 x.g e
    rw [hx] at h1
    simp only [Option.some.injEq, Obj.cells.injEq] at h1
    exact absurd h1.2.1 (by decide)
  have old : ∀ x : Sl, OSl x1 w1.heap.size x → OSl w' w1.heap.size x := fun x o => ⟨o.lo, (hg.block x.g (Array.getElem?_eq_some_iff.1 o.row).1 (fun e => nb x o.row e.symm)).trans o.row, o.len, o.byt, o.pl⟩
  refine ⟨⟨?_, fun x hx => ?_⟩, ?_, ?_, ?_, ?_, ?_⟩
  · rw [List.map_append, List.flatten_append]
    simpa [stc] using ho
  · rcases List.mem_append.1 hx with hx | hx
    · exact old x (m1.byt x hx)
    · simp only [List.mem_cons, List.not_mem_nil, or_false] at hx
      subst hx
      exact old _ ⟨by show _ ≤ R; omega, hl.row, hlen.1, hlen.2, hp⟩
  · rw [List.map_append, List.map_append, h.eq]
    simp [spl]
  · rw [rdD_snoc] at hc
    exact cx_grown hc hg (fun g hg' => ⟨m2 g hg', by have := (own_blk own0 g hg').1; omega⟩)
  · exact fol_grown (fol_trans h.fol hf) hg (fun g hg' => (own_blk own0 g hg').1)
  · intro g hg'
    rcases hv g hg' with h1 | h1
    · exact m2 g h1
    · exact fun hfp => by have := hc.hi g hfp; omega
  · intro x hx
    rcases List.mem_append.1 hx with hx | hx
    · exact m3 x hx
    · simp only [List.mem_cons, List.not_mem_nil, or_false] at hx
      subst hx
      exact hl.no
end Go.Proofs.YteaejodihmnbcaaDoor
