/-
  The reference's Put and Get of records. And what follows it.
-/
import Derived.Test.YtcggbnggmglphaaDoorQ32
namespace Go.Proofs.YtcggbnggmglphaaDoor
set_option maxRecDepth 100000
set_option linter.unusedVariables false
open Go.RowKit Plain
theorem rput8 (x : Int) (w : World) (hx : N64 x) :
    Calls Tryd.prog 49 #[.int .u64 x, .int .i64 8] w fun e w' => ∃ a c, e = .returned (.slice a 8 c) ∧ Bytes w' a 8 (bytesOf x 8) ∧ Below w.heap.size w w' :=
  (rput_any x 8 8 w hx rfl (by omega)).mono fun e w' ⟨a, c, he, ho⟩ => ⟨a, c, he, ho.bytes (bytesOf_bd _ 8), ho.2.2⟩
theorem b257 : bytesOf 257 8 = [1, 1, 0, 0, 0, 0, 0, 0] := by decide
theorem b1 : bytesOf 1 8 = [1, 0, 0, 0, 0, 0, 0, 0] := by decide
theorem own_row8 {w : World} {g B : Nat} {A : List Int} (hl : A.length = 8) (hB : B ≤ g) (h : w.heap[g]? = some (.cells (u8s A) 5 (0, 0))) : w.ownsRow B 5 1 (.slice (some ⟨g, 0, none⟩) 8 8) 8 (A.map (Value.int .u8)) :=
  ⟨by simp [hl], .inr ⟨g, 8, _, rfl, hB, h, Nat.le_refl _, by decide, by simp [u8s, hl], by simp [u8s]; rw [List.take_of_length_le (by simp [hl])]⟩⟩
theorem exec_cat {o : Oper} {ρ : Operand → Value} {w' : World} (x y : Operand) (ty : TypeId) (ho : o.op = .binOp .add 9 x y ty) (a b : ByteArray) (hx : ρ x = .string a) (hy : ρ y = .string b) (hab : a.size + b.size ≤ 9223372036854775807) :
    (execOp ρ o).run Tryd.prog w' = .ok (.value (.string (a ++ b))) w' := by
  unfold execOp
  simp [ho, hx, hy, eqGuard, binOp, Op.stringOp]
  omega
set_option maxRecDepth 20000 in
set_option maxHeartbeats 1000000 in
theorem rrput_ok (x : (Int × List Int) × Bool) (hl : x.1.2.length = 160) (hn : N64 x.1.1) (w : World) :
    Calls Tryd.prog 31 #[.agg (rrc x).toArray] w fun e w' => e = .returned (.tuple #[.string (strOfNums (putP x)), .int .i64 0]) ∧ Below w.heap.size w w' := by
  obtain ⟨⟨blk, L⟩, last⟩ := x
  simp only at hl hn
  unfold rrc
  simp only
  obtain ⟨s, hs⟩ : ∃ s, strOfNums L = s := ⟨_, rfl⟩
  have hsz : s.size = 160 := by rw [← hs, str_size]; exact hl
  rw [hs]
  obtain ⟨sr, HSR⟩ : ∃ sr, Box (strOfNums (putP ((blk, L), last)) = sr) := ⟨_, ⟨rfl⟩⟩
  rw [HSR.out]
  obtain ⟨sh, HSH⟩ : ∃ sh, Box (strOfNums (bytesOf (hd last) 8 ++ bytesOf blk 8) = sh) := ⟨_, ⟨rfl⟩⟩
  have HSM : Box (sh.size + s.size ≤ 9223372036854775807) := ⟨by rw [← HSH.out, str_size, hsz]; simp [length_bytesOf]⟩
  have hcat : sh ++ s = sr := by rw [← HSH.out, ← hs, ← HSR.out, str_app]; rfl
  obtain ⟨S, hS⟩ : ∃ S, w.heap.size = S := ⟨_, rfl⟩
  obtain ⟨w1, hw1⟩ : ∃ w1, w.alloc (.cells #[.int .u64 blk, .string s, .bool last] 95) = w1 := ⟨_, rfl⟩
  have hb1 : Below w.heap.size w w1 := by rw [← hw1]; exact (Below.refl _ _).alloc (Nat.le_refl _) _
  have hs1 : w1.heap.size = S + 1 := by rw [← hw1]; simp [hS]
  have r1 : w1.heap[S]? = some (.cells #[.int .u64 blk, .string s, .bool last] 95 (0, 0)) := by rw [← hw1]; exact al_at hS
  have HR : Box (∀ y, Below (S + 1) w1 y → y.cell? ⟨S, 0, none⟩ = some (.int .u64 blk) ∧ y.cell? ⟨S, 1, none⟩ = some (.string s) ∧ y.cell? ⟨S, 2, none⟩ = some (.bool last)) := ⟨fun y hy => by
    have r := (hy.block S (by omega)).trans r1
    exact ⟨by rw [cell_of_row _ _ _ _ _ _ r]; rfl, by rw [cell_of_row _ _ _ _ _ _ r]; rfl, by rw [cell_of_row _ _ _ _ _ _ r]; rfl⟩⟩
  have HB : Box (Below w.heap.size w w1 ∧ w.heap.size = S) := ⟨hb1, hS⟩
  have c1 := (HR.out w1 (Below.refl _ _)).2.1
  obtain ⟨w2, hw2⟩ : ∃ w2, w1.alloc (.cells #[.int .u8 1, .int .u8 0, .int .u8 0, .int .u8 0, .int .u8 0, .int .u8 0, .int .u8 0, .int .u8 0] 5) = w2 := ⟨_, rfl⟩
  have hb2 : Below (S + 1) w1 w2 := by rw [← hw2]; exact (Below.refl _ _).alloc (by omega) _
  have r2 : w2.heap[S + 1]? = some (.cells (u8s [1, 0, 0, 0, 0, 0, 0, 0]) 5 (0, 0)) := by rw [← hw2]; exact al_at hs1
  have c22 := (HR.out w2 hb2).2.2
  have hs2 : S + 1 ≤ w2.heap.size := by rw [← hw2]; simp; omega
  have HE : Box (∀ y, y.heap[S + 1]? = some (.cells (u8s (bytesOf (hd last) 8)) 5 (0, 0)) → Below (S + 1) w1 y → S + 1 ≤ y.heap.size → Pu w1 y (S + 1) (.slice (some ⟨S + 1, 0, none⟩) 8 8) 8 (bytesOf (hd last) 8)) := ⟨fun y h1 h2 h3 => ⟨own_row8 (length_bytesOf _ _) (Nat.le_refl _) h1, h2, h3⟩⟩
  have key : ∀ w3 : World, Box (Pu w1 w3 (S + 1) (.slice (some ⟨S + 1, 0, none⟩) 8 8) 8 (bytesOf (hd last) 8)) → True := fun _ _ => trivial
  clear hs hl r1
  cases last
  · have HP : Box (Pu w1 w2 (S + 1) (.slice (some ⟨S + 1, 0, none⟩) 8 8) 8 (bytesOf (hd false) 8)) := ⟨HE.out w2 (by show _ = some (Obj.cells (u8s (bytesOf 1 8)) 5 (0, 0)); rw [b1]; exact r2) hb2 hs2⟩
    clear hb2 r2 hs2 hb1
    go_enter Tryd.func31, Tryd.ntmps31
    go_upto_region 1 with fail
    (try simp only [hw1, hS])
    go_upto_region 4 with fail
    (try simp only [hs1, hw2])
    clear hw1 hw2 hS hs1
    go_upto_region 6 with fail
    have c0 := (HR.out w2 HP.out.2.1).1
    go_upto_region 7 with (first
      | (go_at_call 49; refine (rput8 blk _ hn).mono ?_; rintro e x5 ⟨a5, c5, rfl, hB, hb⟩; have H5 : Box (Pu w1 x5 (S + 1) (.slice (some ⟨S + 1, 0, none⟩) 8 8) 8 (bytesOf (hd false) 8) ∧ Bytes x5 a5 8 (bytesOf blk 8)) := ⟨HP.out.below hb, hB⟩; clear hB hb c0)
      | (at_builtin; refine wpList_app rfl (.tmp 15) (.tmp 19) rfl (S + 1) 8 8 c5 _ (bytesOf (hd false) 8) (bytesOf blk 8) _ x5 rfl rfl H5.out.1.1 H5.out.2 (by decide) (Below.refl _ _) H5.out.1.2.2 ?_; intro v6 x6 h6; have H6 : Box (Pu w1 x6 (S + 1) v6 (8 + 8) (bytesOf (hd false) 8 ++ bytesOf blk 8)) := ⟨H5.out.1.app h6⟩; clear h6))
    have H7 : Box (Pu w1 x6 (S + 1) v6 16 (bytesOf (hd false) 8 ++ bytesOf blk 8)) := ⟨H6.out⟩
    obtain ⟨a7, c7, rfl⟩ := own_form H7.out.1
    have HBy : Box (Bytes x6 a7 16 (bytesOf (hd false) 8 ++ bytesOf blk 8)) := ⟨own_bytes H7.out.1 (byt_app _ _ (bytesOf_bd _ _) (bytesOf_bd _ _))⟩
    have HCv : Box (∀ o : Oper, ∀ a : Act, o.op = .convert 58 9 (.tmp 21) → a.eval (.tmp 21) = .slice a7 16 c7 → (execOp a.eval o).run Tryd.prog x6 = .ok (.value (.string sh)) x6) := ⟨fun o a h1 h2 => by rw [← HSH.out]; exact exec_conv (.tmp 21) h1 h2 HBy.out⟩
    have c6 := (HR.out x6 H7.out.2.1).2.1
    clear H6 H5 HP
    go_wp2_with (first | (refine atConv _ _ ?_; refine wpList_run rfl _ _ (HCv.out _ _ rfl rfl) ?_) | (refine atBin .add 9 ?_; refine wpList_run rfl _ _ (exec_cat _ _ _ rfl sh s rfl rfl HSM.out) ?_; rw [hcat]))
    go_ret2
    exact ⟨rfl, HB.out.1.trans (H7.out.2.1.mono (by have := HB.out.2; omega))⟩
  · obtain ⟨w3, hw3⟩ : ∃ w3, w2.setCell ⟨S + 1, 1, none⟩ (.int .u8 1) = w3 := ⟨_, rfl⟩
    have r3 : w3.heap[S + 1]? = some (.cells (u8s [1, 1, 0, 0, 0, 0, 0, 0]) 5 (0, 0)) := by rw [← hw3, heap_setCell_same w2 (S + 1) 1 _ 5 _ r2]; rfl
    have HP : Box (Pu w1 w3 (S + 1) (.slice (some ⟨S + 1, 0, none⟩) 8 8) 8 (bytesOf (hd true) 8)) := ⟨HE.out w3 (by show _ = some (Obj.cells (u8s (bytesOf 257 8)) 5 (0, 0)); rw [b257]; exact r3) (by rw [← hw3]; exact below_set hb2 (Nat.le_refl _) _) (by rw [← hw3]; simpa using hs2)⟩
    have hf : w2.frozen? ⟨S + 1, 1, none⟩ = false := frozen_of_row w2 (S + 1) 1 _ 5 r2
    have hc : w2.cell? ⟨S + 1, 1, none⟩ = some (.int .u8 0) := by rw [cell_of_row _ _ _ _ _ _ r2]; rfl
    clear hb2 r2 hs2 hb1 r3
    go_enter Tryd.func31, Tryd.ntmps31
    go_upto_region 1 with fail
    (try simp only [hw1, hS])
    go_upto_region 4 with fail
    (try simp only [hs1, hw2])
    clear hw1 hw2 hS hs1
    go_upto_region 6 with fail
    (try simp only [hw3])
    clear hw3 hf hc
    have c0 := (HR.out w3 HP.out.2.1).1
    go_upto_region 7 with (first
      | (go_at_call 49; refine (rput8 blk _ hn).mono ?_; rintro e x5 ⟨a5, c5, rfl, hB, hb⟩; have H5 : Box (Pu w1 x5 (S + 1) (.slice (some ⟨S + 1, 0, none⟩) 8 8) 8 (bytesOf (hd true) 8) ∧ Bytes x5 a5 8 (bytesOf blk 8)) := ⟨HP.out.below hb, hB⟩; clear hB hb c0)
      | (at_builtin; refine wpList_app rfl (.tmp 15) (.tmp 19) rfl (S + 1) 8 8 c5 _ (bytesOf (hd true) 8) (bytesOf blk 8) _ x5 rfl rfl H5.out.1.1 H5.out.2 (by decide) (Below.refl _ _) H5.out.1.2.2 ?_; intro v6 x6 h6; have H6 : Box (Pu w1 x6 (S + 1) v6 (8 + 8) (bytesOf (hd true) 8 ++ bytesOf blk 8)) := ⟨H5.out.1.app h6⟩; clear h6))
    have H7 : Box (Pu w1 x6 (S + 1) v6 16 (bytesOf (hd true) 8 ++ bytesOf blk 8)) := ⟨H6.out⟩
    obtain ⟨a7, c7, rfl⟩ := own_form H7.out.1
    have HBy : Box (Bytes x6 a7 16 (bytesOf (hd true) 8 ++ bytesOf blk 8)) := ⟨own_bytes H7.out.1 (byt_app _ _ (bytesOf_bd _ _) (bytesOf_bd _ _))⟩
    have HCv : Box (∀ o : Oper, ∀ a : Act, o.op = .convert 58 9 (.tmp 21) → a.eval (.tmp 21) = .slice a7 16 c7 → (execOp a.eval o).run Tryd.prog x6 = .ok (.value (.string sh)) x6) := ⟨fun o a h1 h2 => by rw [← HSH.out]; exact exec_conv (.tmp 21) h1 h2 HBy.out⟩
    have c6 := (HR.out x6 H7.out.2.1).2.1
    clear H6 H5 HP
    go_wp2_with (first | (refine atConv _ _ ?_; refine wpList_run rfl _ _ (HCv.out _ _ rfl rfl) ?_) | (refine atBin .add 9 ?_; refine wpList_run rfl _ _ (exec_cat _ _ _ rfl sh s rfl rfl HSM.out) ?_; rw [hcat]))
    go_ret2
    exact ⟨rfl, HB.out.1.trans (H7.out.2.1.mono (by have := HB.out.2; omega))⟩
end Go.Proofs.YtcggbnggmglphaaDoor
namespace Go.Proofs.YtcggbnggmglphaaDoor
set_option maxRecDepth 100000
set_option linter.unusedVariables false
open Go.RowKit Plain
theorem len_ofP (P : List (Int × List Int)) : (ofP P).length = P.length := by simp [ofP]
/-- Appending to a row of one's own leaves it in its block, or in a new one. -/
theorem run_app {P : Program} (w : World) (t ty e : TypeId) (i : TypeInfo) (z : Value) (size bytes : Nat) (ht : P.underlying t = some (.slice e)) (hi : P.info? e = some i) (hz : i.zero = some z)
    (hsize : i.size = size) (hby : i.bytes = bytes) (hzs : z.cells.size = size) (hsz : 0 < size) (v : Value) (n : Nat) (xs : List Value) (hown : w.ownsRow 0 e size v n xs)
    (a : Addr) (m c : Nat) (news : List Value) (hl : news.length = m * size) (hnews : ∀ j u, news[j]? = some u → w.cell? (a.add j) = some u) (h1 : ∀ u ∈ news, u.oneCell' = true)
    (h63 : n + m ≤ maxLen) (hbytes : (n + m) * bytes ≤ 140737488355328) :
    ∃ v' w', (Builtin.append_ #[t, t] ty #[v, .slice (some a) m c]).run P w = .ok v' w' ∧ w'.ownsRow 0 e size v' (n + m) (xs ++ news) ∧ w.grownBy w' v.ownBlock ∧ ∀ k, v'.ownBlock = some k → v.ownBlock = some k ∨ w.heap.size ≤ k := by
  obtain ⟨v', w', hr, h2, h3, h4⟩ := run_append_own (P := P) w 0 t ty e i z size bytes ht hi hz hsize hby hzs hsz v n xs hown a m c news hl hnews h1 h63 hbytes (Nat.zero_le _)
  refine ⟨v', w', hr, h2, h3, ?_⟩
  rcases hown.2 with ⟨rfl, rfl⟩ | ⟨g, cap, cur, rfl, hbg, hg, hnc, hcm, hcs, htake⟩
  · have hx : xs = [] := List.eq_nil_of_length_eq_zero (by simpa using hown.1)
    subst hx
    obtain ⟨v2, w2, hr2, h22, _⟩ := run_append_own (P := P) w w.heap.size t ty e i z size bytes ht hi hz hsize hby hzs hsz _ 0 [] (World.ownsRow_nil w w.heap.size e size) a m c news hl hnews h1 h63 hbytes (Nat.le_refl _)
    rw [hr] at hr2
    simp only [Result.ok.injEq] at hr2
    obtain ⟨rfl, rfl⟩ := hr2
    exact fun k hk => .inr (h22.lt k hk).1
  · subst hsize
    subst hby
    by_cases hroom : n + m ≤ cap
    · have hfit : n * i.size + news.length ≤ cur.size := by rw [hl, hcs, ← Nat.add_mul]; exact Nat.mul_le_mul_right _ hroom
      have hr2 := run_append_room (P := P) w t ty e i ht hi g n cap cur hg a m c news hl hnews h1 hroom hfit
      rw [hr] at hr2
      simp only [Result.ok.injEq] at hr2
      obtain ⟨rfl, rfl⟩ := hr2
      exact fun k hk => .inl hk
    · have hsmall : n + m ≤ 9223372036854775807 := by simp only [maxLen] at h63; omega
      have holds : ∀ j u, xs[j]? = some u → w.cell? ((⟨g, 0, none⟩ : Addr).add j) = some u := hown.cells (g := g) rfl
      have hr2 := run_append_grow (P := P) w t ty e i z ht hi hz ⟨g, 0, none⟩ n cap xs hown.1 holds a m c news hl hnews (by omega) (by omega) (growslice_fits (by omega) hbytes)
      rw [hr] at hr2
      simp only [Result.ok.injEq] at hr2
      obtain ⟨rfl, rfl⟩ := hr2
      exact fun k hk => .inr (by simp [Value.ownBlock] at hk; omega)
set_option maxRecDepth 20000 in
set_option maxHeartbeats 2000000 in
theorem of_bad (a : Option Addr) (cap : Nat) (M : List Im) (w : World) (h : Imgs w a M) (hl : M.length ≤ 1000) (h0 : 0 < M.length) (hall : ∃ m ∈ M, m.bl ≠ 160) (hmx : ∀ m ∈ M, m.bl ≤ 100000) :
    Calls Tryd.prog 24 #[.slice a M.length cap] w fun e w' => e = .returned (.tuple #[.slice none 0 0, .int .i64 1]) ∧ Below w.heap.size w w' := by
  have HM : Box ((∀ x, Below w.heap.size w x → Imgs x a M) ∧ (∀ m ∈ M, m.bl ≤ 100000) ∧ ∃ m ∈ M, m.bl ≠ 160) := ⟨fun x hx => h.below hx, hmx, hall⟩
  obtain ⟨b, o, rfl, hbl, hr⟩ := h.tb h0
  obtain ⟨n, hn⟩ : ∃ n, M.length = n := ⟨_, rfl⟩
  rw [hn] at hl h0 ⊢
  have HN : Box (M.length = n) := ⟨hn⟩
  have hz : ((n : Int) == 0) = false := by simp; omega
  have HMK : Box (40 * n ≤ 281474976710656 ∧ n ≤ 9223372036854775807) := ⟨by omega, by omega⟩
  obtain ⟨g, hg⟩ : ∃ g, w.heap.size = g := ⟨_, rfl⟩
  obtain ⟨w1, hw1⟩ : ∃ w1, w.alloc (.cells ((List.replicate n zrc).map rcc).flatten.toArray 82) = w1 := ⟨_, rfl⟩
  have HK0 : Box (OfK w w1 M g n 0 []) := ⟨⟨by rw [← hw1]; simp only [List.map_nil, List.nil_append, Nat.sub_zero]; exact al_at hg, rfl, by simp, fun m hm => by simp at hm, by rw [← hw1]; exact (Below.refl _ _).alloc (Nat.le_refl _) _, Nat.le_of_eq hg⟩⟩
  have HMC : Box (w.alloc (.cells (madeCells #[.int .u64 0, .slice none 0 0, .bool false] (n * 3)) 82) = w1) := ⟨by rw [← hw1, made_flat rcc 3 (fun _ => rfl) (by decide) zrc #[.int .u64 0, .slice none 0 0, .bool false] rfl n]⟩
  have HOK : Box (M.length = n ∧ ∀ wr k Q, OfK w wr M g n k Q → ∀ hk : k < M.length, wr.rangeAt b (o + k * 2) (imc M[k]) ∧ Bytes wr M[k].ba M[k].bl M[k].bs ∧ N64 M[k].blk ∧ M[k].bl ≤ 100000 ∧ b < wr.heap.size) := ⟨hn, fun wr k Q hK hk => by
    have hb := (HM.out.1 wr hK.bel).byt M[k] (List.getElem_mem hk)
    exact ⟨range_below hK.bel (hr k hk) hbl, hb.1, hb.2.1, HM.out.2.1 _ (List.getElem_mem hk), Nat.lt_of_lt_of_le hbl hK.bel.size⟩⟩
  clear h hall hmx hr hw1
  go_enter Tryd.func24, Tryd.ntmps24
  go_upto_region 4 with (refine atMake _ ?_; refine wpList_run rfl _ _ (exec_make 77 82 _ _ rfl _ 3 40 Tryd.underlying77 infRc n rfl rfl HMK.out.1 HMK.out.2) ?_)
  have hcz : (Value.agg #[.int .u64 0, .slice none 0 0, .bool false]).cells = #[.int .u64 0, .slice none 0 0, .bool false] := rfl
  (try simp only [HMC.out])
  clear hcz
  go_wp2
  go_loopw [15] (fun i wr => ∃ (k : Nat) (Q : List Im), k ≤ n ∧ i = .int .i64 (k : Int) ∧ Box (OfK w wr M g n k Q ∧ ∀ i (hi : i < M.length), i < k → M[i].bl = 160)) (fun i _ => n - (intOf i).toNat)
  case atStart => exact ⟨0, [], Nat.zero_le _, rfl, ⟨HK0.out, fun i hi h => by omega⟩⟩
  case round =>
    obtain ⟨k, Q, hk, rfl, HK⟩ := hrel
    by_cases hlt : k < n
    · by_cases hgood : (M[k]'(by have := HN.out; omega)).bl = 160
      rotate_left
      · have hlt1 : decide ((k : Int) < (n : Int)) = true := by simp; omega
        have hkm : k < M.length := by omega
        have hF := HOK.out.2 wr k Q HK.out.1 hkm
        have HST : Box (∀ wx m', Below wr.heap.size wr wx → pl m' = pl M[k] → OIm wx w.heap.size m' → ∃ Q', OfK w (wx.setCells g (k * 3) (imc m')) M g n (k + 1) Q') := ⟨fun wx m' h1 h2 h3 => ⟨_, HK.out.1.step HOK.out.1 hlt h1 m' h2 h3⟩⟩
        obtain ⟨⟨blk, ba, bl, bc, bs⟩, hmm⟩ : ∃ m, M[k] = m := ⟨_, rfl⟩
        rw [hmm] at hF HST
        simp only at hF
        have HR : Box (wr.rangeAt b (o + k * 2) [.int .u64 blk, .slice ba bl bc]) := ⟨hF.1⟩
        have HF2 : Box (∀ x, Below wr.heap.size wr x → Bytes x ba bl bs) := ⟨fun x hx => hF.2.1.below hx⟩
        have HF3 : Box (N64 blk ∧ ¬ bl = 160) := ⟨hF.2.2.1, by rw [hmm] at hgood; exact hgood⟩
        have HROW : Box (∀ x, Below wr.heap.size wr x → x.there g (k * 3) 2) := ⟨fun x hx => there_row ((hx.block g (Array.getElem?_eq_some_iff.1 HK.out.1.row).1).trans HK.out.1.row) (by
          have := flat_len rcc 3 (fun _ => rfl) (Q.map rf ++ List.replicate (n - k) zrc)
          simp only [List.length_append, List.length_map, List.length_replicate, HK.out.1.len] at this
          simp only [List.size_toArray]
          rw [this]
          omega)⟩
        have HBL : Box (w.heap.size ≤ wr.heap.size) := ⟨HK.out.1.bel.size⟩
        have HLT : Box (k < n) := ⟨hlt⟩
        have HWH : Box (((bl : Int) == 160) = false) := ⟨by simp; exact fun e => HF3.out.2 (by omega)⟩
        have hw4 : IntKind.i64.wrap ((k : Int) + 1) = ((k + 1 : Nat) : Int) := by rw [IntKind.wrap_i64]; omega
        clear hF hmm hkm hgood
        go_upto_region 7 with (first
          | (refine atIdx 24 ?_; refine wpList_run rfl _ _ (exec_idxT 24 60 Tryd.underlying24 2 infoIm _ _ rfl b o n cap k rfl rfl HLT.out) ?_)
          | (refine atLoad 60 ?_; refine wpList_ldMid rfl 60 _ _ rfl Tryd.underlying60 rfl b (o + k * 2) rfl [.int .u64 blk, .slice ba bl bc] infoIm HR.out ?_)
          | (refine atAlloc _ ?_; refine wpList_run rfl _ _ (exec_alloc 60 rfl _ zeroIm) ?_)
          | (refine atStore _ ?_; refine wpList_newRow wr #[.int .u64 0, .slice none 0 0] #[.int .u64 blk, .slice ba bl bc] infoIm rfl (by simp [Value.oneCell']) rfl _ _ rfl rfl rfl rfl ?_; intro x1 h1 hb1; have H1 : Box (x1.heap[wr.heap.size]? = some (.cells #[.int .u64 blk, .slice ba bl bc] 60 (0, 0)) ∧ Below wr.heap.size wr x1) := ⟨h1, hb1⟩; clear h1 hb1))
        obtain ⟨B, hB⟩ : ∃ B, wr.heap.size = B := ⟨_, rfl⟩
        simp only [hB]
        have HBX : Box (∀ x, Below x1.heap.size x1 x → x.rangeAt B 0 [.int .u64 blk, .slice ba bl bc] ∧ Below wr.heap.size wr x) := ⟨fun x hx => by
          have h3 := H1.out
          rw [hB] at h3
          have r := (hx.block B (Array.getElem?_eq_some_iff.1 h3.1).1).trans h3.1
          exact ⟨range_arr r _ (fun j v hv => by simpa using hv), below_to H1.out.2 hx⟩⟩
        have HR1 : Box (x1.rangeAt B 0 [.int .u64 blk, .slice ba bl bc]) := ⟨(HBX.out x1 (Below.refl _ _)).1⟩
        clear hB
        go_wp2_with (first
          | (refine atLoad 60 ?_; refine wpList_ldMid rfl 60 _ _ rfl Tryd.underlying60 rfl B 0 rfl [.int .u64 blk, .slice ba bl bc] infoIm HR1.out ?_)
          | (go_at_call 41; refine (whole_any ⟨blk, ba, bl, bc, bs⟩ false HWH.out _).mono ?_; rintro e x2 ⟨rfl, hbx⟩; have H2 : Box (Below x1.heap.size x1 x2) := ⟨hbx⟩; clear hbx))
        go_ret2
        exact ⟨rfl, below_to HK.out.1.bel (HBX.out x2 H2.out).2⟩
      have HGD : Box (∀ i (hi : i < M.length), i < k + 1 → M[i].bl = 160) := ⟨fun i hi h => by
        by_cases e : i = k
        · subst e; exact hgood
        · exact HK.out.2 i hi (by omega)⟩
      have hlt1 : decide ((k : Int) < (n : Int)) = true := by simp; omega
      have hkm : k < M.length := by omega
      have hF := HOK.out.2 wr k Q HK.out.1 hkm
      have HST : Box (∀ wx m', Below wr.heap.size wr wx → pl m' = pl M[k] → OIm wx w.heap.size m' → ∃ Q', OfK w (wx.setCells g (k * 3) (imc m')) M g n (k + 1) Q') := ⟨fun wx m' h1 h2 h3 => ⟨_, HK.out.1.step HOK.out.1 hlt h1 m' h2 h3⟩⟩
      obtain ⟨⟨blk, ba, bl, bc, bs⟩, hmm⟩ : ∃ m, M[k] = m := ⟨_, rfl⟩
      rw [hmm] at hF HST
      simp only at hF
      have HR : Box (wr.rangeAt b (o + k * 2) [.int .u64 blk, .slice ba bl bc]) := ⟨hF.1⟩
      have HF2 : Box (∀ x, Below wr.heap.size wr x → Bytes x ba bl bs) := ⟨fun x hx => hF.2.1.below hx⟩
      have HF3 : Box (N64 blk ∧ bl = 160) := ⟨hF.2.2.1, by rw [hmm] at hgood; exact hgood⟩
      have HROW : Box (∀ x, Below wr.heap.size wr x → x.there g (k * 3) 2) := ⟨fun x hx => there_row ((hx.block g (Array.getElem?_eq_some_iff.1 HK.out.1.row).1).trans HK.out.1.row) (by
        have := flat_len rcc 3 (fun _ => rfl) (Q.map rf ++ List.replicate (n - k) zrc)
        simp only [List.length_append, List.length_map, List.length_replicate, HK.out.1.len] at this
        simp only [List.size_toArray]
        rw [this]
        omega)⟩
      have HBL : Box (w.heap.size ≤ wr.heap.size) := ⟨HK.out.1.bel.size⟩
      have HLT : Box (k < n) := ⟨hlt⟩
      have HWH : Box (((bl : Int) == 160) = true) := ⟨by rw [HF3.out.2]; rfl⟩
      have hw4 : IntKind.i64.wrap ((k : Int) + 1) = ((k + 1 : Nat) : Int) := by rw [IntKind.wrap_i64]; omega
      clear hF hmm hkm hgood
      go_upto_region 7 with (first
        | (refine atIdx 24 ?_; refine wpList_run rfl _ _ (exec_idxT 24 60 Tryd.underlying24 2 infoIm _ _ rfl b o n cap k rfl rfl HLT.out) ?_)
        | (refine atLoad 60 ?_; refine wpList_ldMid rfl 60 _ _ rfl Tryd.underlying60 rfl b (o + k * 2) rfl [.int .u64 blk, .slice ba bl bc] infoIm HR.out ?_)
        | (refine atAlloc _ ?_; refine wpList_run rfl _ _ (exec_alloc 60 rfl _ zeroIm) ?_)
        | (refine atStore _ ?_; refine wpList_newRow wr #[.int .u64 0, .slice none 0 0] #[.int .u64 blk, .slice ba bl bc] infoIm rfl (by simp [Value.oneCell']) rfl _ _ rfl rfl rfl rfl ?_; intro x1 h1 hb1; have H1 : Box (x1.heap[wr.heap.size]? = some (.cells #[.int .u64 blk, .slice ba bl bc] 60 (0, 0)) ∧ Below wr.heap.size wr x1) := ⟨h1, hb1⟩; clear h1 hb1))
      obtain ⟨B, hB⟩ : ∃ B, wr.heap.size = B := ⟨_, rfl⟩
      simp only [hB]
      have HBX : Box (∀ x, Below x1.heap.size x1 x → x.rangeAt B 0 [.int .u64 blk, .slice ba bl bc] ∧ Below wr.heap.size wr x) := ⟨fun x hx => by
        have h3 := H1.out
        rw [hB] at h3
        have r := (hx.block B (Array.getElem?_eq_some_iff.1 h3.1).1).trans h3.1
        exact ⟨range_arr r _ (fun j v hv => by simpa using hv), below_to H1.out.2 hx⟩⟩
      have HR1 : Box (x1.rangeAt B 0 [.int .u64 blk, .slice ba bl bc]) := ⟨(HBX.out x1 (Below.refl _ _)).1⟩
      clear hB
      go_upto_region 9 with (first
        | (refine atLoad 60 ?_; refine wpList_ldMid rfl 60 _ _ rfl Tryd.underlying60 rfl B 0 rfl [.int .u64 blk, .slice ba bl bc] infoIm HR1.out ?_)
        | (go_at_call 41; refine (whole_any ⟨blk, ba, bl, bc, bs⟩ true HWH.out _).mono ?_; rintro e x2 ⟨rfl, hbx⟩; have H2 : Box (Below x1.heap.size x1 x2) := ⟨hbx⟩; clear hbx))
      have HR2 : Box (x2.rangeAt B 0 [.int .u64 blk, .slice ba bl bc]) := ⟨(HBX.out x2 H2.out).1⟩
      have HOW : Box (Calls Tryd.prog 42 #[.agg #[.int .u64 blk, .slice ba bl bc]] x2 fun e w' => ∃ m', e = .returned (.agg (imc m').toArray) ∧ Owned x2 w' ⟨blk, ba, bl, bc, bs⟩ m') := ⟨own_any ⟨blk, ba, bl, bc, bs⟩ x2 (HF2.out x2 (HBX.out x2 H2.out).2) HF3.out.1 (by show bl < 1000000; rw [HF3.out.2]; decide)⟩
      clear HR1
      go_wp2_with (first
        | (refine atLoad 60 ?_; refine wpList_ldMid rfl 60 _ _ rfl Tryd.underlying60 rfl B 0 rfl [.int .u64 blk, .slice ba bl bc] infoIm HR2.out ?_)
        | (go_at_call 42; refine HOW.out.mono ?_; rintro e x3 ⟨⟨mb, ma, ml, mc, ms⟩, rfl, hO⟩; have H3 : Box (Below wr.heap.size wr x3 ∧ pl ⟨mb, ma, ml, mc, ms⟩ = pl ⟨blk, ba, bl, bc, bs⟩ ∧ OIm x3 w.heap.size ⟨mb, ma, ml, mc, ms⟩) := ⟨below_to (HBX.out x2 H2.out).2 hO.2.2.2, hO.1, hO.2.2.1.low (by have := (HBX.out x2 H2.out).2.size; have := HBL.out; omega)⟩; clear hO)
        | (refine atIdx 77 ?_; refine wpList_run rfl _ _ (exec_idxT 77 82 Tryd.underlying77 3 infoRc _ _ rfl g 0 n n k rfl rfl HLT.out) ?_; rw [Nat.zero_add])
        | (refine atStore _ ?_; refine wpList_stMid rfl 60 _ _ rfl g (k * 3) #[.int .u64 mb, .slice ma ml mc] rfl rfl (HROW.out x3 H3.out.1) infoIm (by simp [Value.oneCell']) ?_))
      obtain ⟨Q', hQ'⟩ := HST.out x3 ⟨mb, ma, ml, mc, ms⟩ H3.out.1 H3.out.2.1 H3.out.2.2
      go_roundw
      case rel => exact ⟨k + 1, Q', HLT.out, by go_num, ⟨hQ', HGD.out⟩⟩
      case measure => simp [intOf]; have := HLT.out; omega
    · exfalso
      obtain ⟨m, hm, hne⟩ := HM.out.2.2
      obtain ⟨i, hi, rfl⟩ := List.getElem_of_mem hm
      exact hne (HK.out.2 i hi (by have := HN.out; omega))
/-- The reference's records so far. -/
structure RoK (w wr : World) (P : List (Int × List Int)) (k : Nat) (v : Value) : Prop where
  row : wr.ownsRow w.heap.size 95 3 v k (((ofP P).take k).map rrc).flatten
  bel : Below w.heap.size w wr
set_option maxRecDepth 20000 in
set_option maxHeartbeats 2000000 in
theorem rof_ok (a : Option Addr) (cap : Nat) (P : List (Int × List Int)) (w : World) (h : Tb w a 2 ic P) (hl : P.length ≤ 1000) (h0 : 0 < P.length) (hall : ∀ x ∈ P, x.2.length = 160) :
    Calls Tryd.prog 30 #[.slice a P.length cap] w fun e w' => ∃ v, e = .returned (.tuple #[v, .int .i64 0]) ∧ RoK w w' P P.length v := by
  obtain ⟨b, o, rfl, hbl, hr⟩ := h h0
  obtain ⟨n, hn⟩ : ∃ n, P.length = n := ⟨_, rfl⟩
  rw [hn] at hl h0 ⊢
  have HN : Box (P.length = n ∧ ∀ x ∈ P, x.2.length = 160) := ⟨hn, hall⟩
  have hz : ((n : Int) == 0) = false := by simp; omega
  have HR : Box (∀ x, Below w.heap.size w x → ∀ k (hk : k < P.length), x.rangeAt b (o + k * 2) (ic P[k])) := ⟨fun x hx k hk => range_below hx (hr k hk) hbl⟩
  clear h hr hall
  go_enter Tryd.func30, Tryd.ntmps30
  go_wp2
  go_loopw [4, 5] (fun v i wr => ∃ k : Nat, k ≤ n ∧ i = .int .i64 (k : Int) ∧ Box (RoK w wr P k v)) (fun _ i _ => n - (intOf i).toNat)
  case atStart => exact ⟨0, Nat.zero_le _, rfl, ⟨⟨World.ownsRow_nil _ _ _ _, Below.refl _ _⟩⟩⟩
  case round =>
    obtain ⟨k, hk, rfl, HK⟩ := hrel
    by_cases hlt : k < n
    · have hlt1 : decide ((k : Int) < (n : Int)) = true := by simp; omega
      have hkP : k < P.length := by have := HN.out.1; omega
      have hrk := HR.out wr HK.out.bel k hkP
      have hle := HN.out.2 P[k] (List.getElem_mem hkP)
      have hof : (ofP P)[k]'(by rw [len_ofP]; exact hkP) = (P[k], decide (k + 1 = n)) := by simp [ofP, HN.out.1]
      obtain ⟨⟨blk, L⟩, hpp⟩ : ∃ x, P[k] = x := ⟨_, rfl⟩
      rw [hpp] at hrk hle hof
      obtain ⟨s, hs⟩ : ∃ s, strOfNums L = s := ⟨_, rfl⟩
      have hsz : s.size = 160 := by rw [← hs, str_size]; exact hle
      have HRg : Box (wr.rangeAt b (o + k * 2) [.int .u64 blk, .string s]) := ⟨by rw [← hs]; exact hrk⟩
      have hc1 : wr.cell? ⟨b, o + k * 2 + 1, none⟩ = some (.string s) := HRg.out 1 _ rfl
      obtain ⟨bb, hbb⟩ : ∃ bb, decide (k + 1 = n) = bb := ⟨_, rfl⟩
      have hb2 : (((k : Int) + 1) == (n : Int)) = bb := by rw [← hbb, Bool.eq_iff_iff]; simp; omega
      have HST : Box (∀ w' v', w'.ownsRow w.heap.size 95 3 v' (k + 1) ((((ofP P).take k).map rrc).flatten ++ [.int .u64 blk, .string s, .bool bb]) → wr.grownBy w' u4.ownBlock → RoK w w' P (k + 1) v') := ⟨fun w' v' h1 h2 => by
        have hk2 : k < (ofP P).length := by rw [len_ofP]; exact hkP
        refine ⟨?_, HK.out.bel.grown h2 HK.out.bel.size (fun j hj => (own_blk HK.out.row j hj).1)⟩
        rw [List.take_succ_eq_append_getElem hk2, hof, hbb]
        simp only [List.map_append, List.map_cons, List.map_nil, List.flatten_append, List.flatten_cons, List.flatten_nil, List.append_nil]
        have e : rrc ((blk, L), bb) = [.int .u64 blk, .string s, .bool bb] := by rw [← hs]; rfl
        rw [e]
        exact h1⟩
      have HLT : Box (k < n) := ⟨hlt⟩
      have HOW : Box (w.heap.size ≤ wr.heap.size ∧ k ≤ 1000000) := ⟨HK.out.bel.size, by omega⟩
      have hw4 : IntKind.i64.wrap ((k : Int) + 1) = ((k : Int) + 1) := by rw [IntKind.wrap_i64]; omega
      clear hrk hle hof hpp hs hbb hkP
      go_wp2_with (first
        | (refine atIdx 53 ?_; refine wpList_run rfl _ _ (exec_idxT 53 93 Tryd.underlying53 2 infoI _ _ rfl b o n cap k rfl rfl HLT.out) ?_)
        | (refine atLoad 93 ?_; refine wpList_ldMid rfl 93 _ _ rfl Tryd.underlying93 rfl b (o + k * 2) rfl [.int .u64 blk, .string s] infoI HRg.out ?_)
        | (refine atBuild 95 ?_; refine wpList_run rfl _ _ (exec_built 95 [(0, .tmp 26), (1, .tmp 31)] rfl [(0, .agg #[.int .u64 blk, .string s]), (1, .bool bb)] rfl _ (built_Rr _ _ _)) ?_)
        | (at_builtin; refine wpList_appR 87 95 Tryd.underlying87 3 32 _ infRr rfl (by decide) rfl (.tmp 22) (.tmp 33) rfl w.heap.size k u4 (((ofP P).take k).map rrc).flatten [.int .u64 blk, .string s, .bool bb] wr rfl rfl rfl HK.out.row rfl (by simp [Value.oneCell']) HOW.out.2 (by decide) (by decide) HOW.out.1 ?_; intro v3 x3 hown hgr; have H3 : Box (RoK w x3 P (k + 1) v3) := ⟨HST.out x3 v3 hown hgr⟩; clear hown hgr))
      go_roundw
      case rel => exact ⟨k + 1, HLT.out, by go_num, H3⟩
      case measure => simp [intOf]; have := HLT.out; omega
    · obtain rfl : k = n := by omega
      have hlt1 : decide ((k : Int) < (k : Int)) = false := by simp
      go_wp2
      go_ret2
      exact ⟨_, rfl, HK.out⟩
end Go.Proofs.YtcggbnggmglphaaDoor
