/-
  What the reference's Bits and Bytes answer.
-/
import Derived.Test.YtjfcliihgpkhdaaBMC
namespace Go.Proofs.Ytjfcliihgpkhdaa
set_option linter.unusedVariables false
open Go.RowKit Plain

theorem str_data (L : List Int) : (strOfNums L).data = (L.map fun n => UInt8.ofNat n.toNat).toArray := rfl
theorem u8_back (x : Int) (h : 0 ≤ x ∧ x ≤ 255) : ((UInt8.ofNat x.toNat).toNat : Int) = x := by simp; omega
theorem str_size (L : List Int) : (strOfNums L).size = L.length := by
  show (strOfNums L).data.size = L.length
  simp [str_data]
theorem index_str (L : List Int) (hL : Byt L) (i : Nat) (hi : i < L.length) (w : World) : (Instr.index 9 (.string (strOfNums L)) (.int .i64 (i : Int))).run Try.prog w = .ok (.int .u8 (L.getD i 0)) w := by
  rw [run_index_string w 9 _ .i64 (i : Int) Try.underlying9, dif_pos ⟨by omega, by rw [str_size]; omega⟩]
  have hb := hL i
  have hg : L.getD i 0 = L[i] := by simp [List.getD, hi]
  rw [hg] at hb ⊢
  have e : ((strOfNums L)[(i : Int).toNat]'(by rw [str_size]; omega)) = UInt8.ofNat (L[i]).toNat := by
    simp only [Int.toNat_natCast]
    show (strOfNums L).data[i]'_ = _
    simp [str_data]
  rw [e, u8_back _ hb]
theorem grown_alloc {w w' : World} {o : Obj} {row : Option Nat} (h : (w.alloc o).grownBy w' row) : w.grownBy w' row :=
  ⟨h.os, h.tape, h.output, Nat.le_trans (by simp) h.size, fun k hk hn => (h.block k (by simp; omega) hn).trans (Below.heap_alloc w o k hk)⟩
theorem own_to {w w' : World} {base n : Nat} {e : TypeId} {sz : Nat} {v : Value} {xs : List Value} (h : w.ownsRow base e sz v n xs) (hb : Below w.heap.size w w') : w'.ownsRow base e sz v n xs := own_same h (fun k hk => hb.block k (h.lt k hk).2)
/-- One thing appended to a row of one's own. -/
theorem wpList_appR {ops : Array Oper} {rest : List Oper} {o : Oper} {act : Act} {w : World} {Q : Exit → Act → World → Prop} (t e : TypeId) (ht : Try.prog.underlying t = some (.slice e)) (sz bytes : Nat) (z : Value) (hi : (Try.prog.info? e).map (fun i => (i.zero, i.size, i.bytes)) = some (some z, sz, bytes)) (hzs : z.cells.size = sz) (hsz : 0 < sz) (hgd : o.guard = none) (s x : Operand)
    (ho : o.op = .call { callee := .builtin .append, args := #[s, x], argTypes := #[t, t] }) (B n : Nat) (v : Value) (xs cs : List Value) (wn : World) (hs : act.eval s = v) (hx : act.eval x = .slice (some ⟨wn.heap.size, 0, none⟩) 1 1) (hw : w = wn.alloc (.cells cs.toArray e)) (hown : wn.ownsRow B e sz v n xs) (hcs : cs.length = sz) (h1 : ∀ u ∈ cs, u.oneCell' = true) (hn : n ≤ 1000000) (hby : bytes ≤ 1000) (hb0 : 0 < bytes) (hB : B ≤ wn.heap.size)
    (h : ∀ v' w', w'.ownsRow B e sz v' (n + 1) (xs ++ cs) → wn.grownBy w' v.ownBlock → wpList Try.prog ops Q rest (act.put o.dst v') w') : wpList Try.prog ops Q (o :: rest) act w := by
  obtain ⟨i0, hi1, hz0, hz1, hz2⟩ := info_parts hi
  subst hw
  have hm : (n + 1) * bytes ≤ 140737488355328 := Nat.le_trans (Nat.mul_le_mul (show n + 1 ≤ 1000001 by omega) hby) (by decide)
  refine wpList_append_own _ hgd s x t ho B e i0 z sz bytes ht hi1 hz0 hz1 hz2 hzs hsz v n xs hs (own_to hown ((Below.refl _ _).alloc (Nat.le_refl _) _)) ⟨wn.heap.size, 0, none⟩ 1 1 cs hx (by rw [hcs, Nat.one_mul]) (news_new wn cs e) h1 (by unfold maxLen; omega) hm (by simp; omega) ?_
  intro v' w' h2 h3 _
  exact h v' w' h2 (grown_alloc h3)
def bols (L : List Bool) : List Value := L.map Value.bool
theorem infoBo : (Try.prog.info? 4).map (fun i => (i.zero, i.size, i.bytes)) = some (some (.bool false), 1, 1) := by kernel_rfl
/-- A row of one's own, and nothing old has turned. -/
structure Gr (w wr : World) (e : TypeId) (v : Value) (n : Nat) (xs : List Value) : Prop where
  row : wr.ownsRow w.heap.size e 1 v n xs
  bel : Below w.heap.size w wr
theorem Gr.step {w wr w' : World} {e : TypeId} {v v' : Value} {n : Nat} {xs cs : List Value} (h : Gr w wr e v n xs) (ho : w'.ownsRow w.heap.size e 1 v' (n + 1) (xs ++ cs)) (hg : wr.grownBy w' v.ownBlock) : Gr w w' e v' (n + 1) (xs ++ cs) :=
  ⟨ho, h.bel.grown hg h.bel.size (fun j hj => (h.row.lt j hj).1)⟩
theorem div_two (y : Int) (k : Nat) : y / 2 ^ k / 2 = y / 2 ^ (k + 1) := by
  have hp : (0 : Int) ≤ 2 ^ k := Int.pow_nonneg (by decide)
  rw [Int.pow_succ, Int.ediv_ediv_of_nonneg hp]
theorem div_bd (y : Int) (k : Nat) (h : 0 ≤ y ∧ y ≤ 255) : 0 ≤ y / 2 ^ k ∧ y / 2 ^ k ≤ 255 := by
  have hp : (0 : Int) ≤ 2 ^ k := Int.pow_nonneg (by decide)
  exact ⟨Int.ediv_nonneg h.1 hp, Int.le_trans (Int.ediv_le_self _ h.1) h.2⟩
set_option maxRecDepth 20000 in
set_option maxHeartbeats 2000000 in
theorem rbits_any (n : Nat) (B : List Int) (w : World) (hn : B.length = n) (hB : Byt B) (hl : n ≤ 1000) :
    Calls Try.prog 10 #[.string (strOfNums B)] w fun e w' => ∃ v, e = .returned v ∧ Gr w w' 4 v (8 * n) (bols (bitsOf B (8 * n))) := by
  have HI : Box (∀ i : Nat, i < n → ∀ x, (Instr.index 9 (.string (strOfNums B)) (.int .i64 (i : Int))).run Try.prog x = .ok (.int .u8 (B.getD i 0)) x) := ⟨fun i hi x => index_str B hB i (by omega) x⟩
  have HB : Box (Byt B) := ⟨hB⟩
  have hz : (strOfNums B).size = n := by rw [str_size]; exact hn
  generalize strOfNums B = s at HI hz ⊢
  clear hB hn
  go_enter Try.func10, Try.ntmps10
  go_wp2
  go_loopw [3, 4] (fun v i wr => ∃ k : Nat, k ≤ n ∧ i = .int .i64 (k : Int) ∧ Box (Gr w wr 4 v (8 * k) (bols (bitsOf B (8 * k))))) (fun _ i _ => n - (intOf i).toNat)
  case atStart => exact ⟨0, Nat.zero_le _, rfl, ⟨⟨World.ownsRow_nil _ _ _ _, Below.refl _ _⟩⟩⟩
  case round =>
    obtain ⟨r, hr, rfl, HG⟩ := hrel
    by_cases hlt : r < n
    · have hlt2 : (r : Int) < (n : Int) := by omega
      have hi := HI.out r hlt
      have hy := HB.out r
      have HO : Box (∀ k, k < 8 → onB B (8 * r + k) = bt (B.getD r 0) k) := ⟨fun k hk => by
        unfold onB
        rw [show (8 * r + k) / 8 = r by omega, show (8 * r + k) % 8 = k by omega]⟩
      generalize B.getD r 0 = y at hi hy HO
      go_wp2
      go_loopw [3, 5, 6] (fun v c j wr => ∃ k : Nat, k ≤ 8 ∧ j = .int .i64 (k : Int) ∧ c = .int .u8 (y / 2 ^ k) ∧ Box (Gr w wr 4 v (8 * r + k) (bols (bitsOf B (8 * r + k))))) (fun _ _ j _ => 8 - (intOf j).toNat)
      case atStart => exact ⟨0, by omega, rfl, by simp, HG⟩
      case round =>
        obtain ⟨k, hk, rfl, rfl, HK⟩ := hrel
        by_cases hk8 : k < 8
        · have hk9 : (k : Int) < 8 := by omega
          have hx := div_bd y k hy
          have h2 : y / 2 ^ k / 2 = y / 2 ^ (k + 1) := div_two y k
          have hb : (y / 2 ^ k % 2 == 1) = bt y k := by unfold bt; rw [Bool.eq_iff_iff]; simp
          have HS : Box (∀ v' w', w'.ownsRow w.heap.size 4 1 v' (8 * r + k + 1) (bols (bitsOf B (8 * r + k)) ++ [.bool (bt y k)]) → wr.grownBy w' u3.ownBlock → Gr w w' 4 v' (8 * r + (k + 1)) (bols (bitsOf B (8 * r + (k + 1))))) := ⟨fun v' w' h1 h2 => by
            have h3 := HK.out.step h1 h2
            rw [show 8 * r + (k + 1) = 8 * r + k + 1 by omega, bitsOf_succ, HO.out k hk8]
            simpa [bols] using h3⟩
          generalize bt y k = c at hb HS
          have H2 : Box (y / 2 ^ k / 2 = y / 2 ^ (k + 1)) := ⟨h2⟩
          have HX2 : 0 ≤ y / 2 ^ (k + 1) ∧ y / 2 ^ (k + 1) ≤ 255 := div_bd y (k + 1) hy
          obtain ⟨x2, hx2⟩ : ∃ x2, Box (y / 2 ^ (k + 1) = x2) := ⟨_, ⟨rfl⟩⟩
          rw [hx2.out] at h2 H2 HX2
          generalize y / 2 ^ k = x at hx hb H2 h2
          clear h2
          have h2 : x / 2 = x2 := H2.out
          have HL : Box (8 * r + k ≤ 1000000) := ⟨by omega⟩
          go_wp2_with (at_builtin; refine wpList_appR 27 4 Try.underlying27 1 1 (.bool false) infoBo rfl (by decide) rfl _ _ rfl w.heap.size (8 * r + k) _ _ [.bool c] _ rfl rfl rfl HK.out.row rfl (by simp [Value.oneCell']) HL.out (by omega) (by omega) HK.out.bel.size ?_; intro v' w' h5 h6; have H5 : Box (Gr w w' 4 v' (8 * r + (k + 1)) (bols (bitsOf B (8 * r + (k + 1))))) := ⟨HS.out v' w' h5 h6⟩; clear h5 h6)
          go_roundw
          case rel => exact ⟨k + 1, by omega, by go_num, by rw [hx2.out, H2.out], H5⟩
          case measure => simp [intOf]; omega
        · obtain rfl : k = 8 := by omega
          go_wp2
          go_roundw
          case rel => exact ⟨r + 1, by omega, by go_num, HK⟩
          case measure => simp [intOf]; omega
    · obtain rfl : r = n := by omega
      go_wp2
      go_ret
      exact ⟨_, rfl, HG.out⟩
/-- Bits in memory, one behind the other. -/
def Bols (w : World) (a : Option Addr) (n : Nat) (L : List Bool) : Prop := L.length = n ∧ (0 < n → ∃ b off, a = some ⟨b, off, none⟩ ∧ b < w.heap.size ∧ ∀ i, i < n → w.cell? ⟨b, off + i, none⟩ = some (.bool (L.getD i false)))
theorem Bols.below {w w' : World} {a : Option Addr} {n : Nat} {L : List Bool} (h : Bols w a n L) (hb : Below w.heap.size w w') : Bols w' a n L := by
  refine ⟨h.1, fun hp => ?_⟩
  obtain ⟨b, off, e, hlt, hc⟩ := h.2 hp
  exact ⟨b, off, e, Nat.lt_of_lt_of_le hlt hb.size, fun i hi => (hb.cell hlt).trans (hc i hi)⟩
theorem own_blockB {w : World} {base n : Nat} {v : Value} {L : List Bool} (h : w.ownsRow base 4 1 v n (bols L)) (hp : 0 < n) : ∃ g cap cur, v = .slice (some ⟨g, 0, none⟩) n cap ∧ base ≤ g ∧ w.heap[g]? = some (.cells cur 4 (0, 0)) ∧ n ≤ cur.size ∧ n ≤ cap ∧ cap ≤ maxLen ∧ ∀ i, i < n → cur[i]? = some (.bool (L.getD i false)) := by
  have hn : L.length = n := by simpa [bols] using h.1
  rcases h.2 with ⟨_, h3⟩ | ⟨g, cap', cur, h3, hb, hh, hle, hm, hs, ht⟩
  · omega
  · subst h3
    refine ⟨g, cap', cur, rfl, hb, hh, by omega, hle, hm, fun i hi => ?_⟩
    have e : cur.toList[i]? = (cur.toList.take n)[i]? := by rw [List.getElem?_take, if_pos hi]
    rw [← Array.getElem?_toList, e]
    have ht' : cur.toList.take n = L.map Value.bool := by simpa [bols] using ht
    rw [ht']
    have hi' : i < L.length := by omega
    simp [hi']
theorem bols_set {w : World} {g n k : Nat} {cur : Array Value} {L : List Bool} {z : Bool} (hg : w.heap[g]? = some (.cells cur 4 (0, 0))) (hs : n ≤ cur.size) (hc : ∀ i, i < n → cur[i]? = some (.bool (L.getD i false))) (hn : L.length = n) (hk : k < n) :
    Bols (w.setCell ⟨g, k, none⟩ (.bool z)) (some ⟨g, 0, none⟩) n (L.set k z) := by
  have hh := heap_setCell_same w g k cur 4 (.bool z) hg
  refine ⟨by simp [hn], fun _ => ⟨g, 0, rfl, by simpa using (Array.getElem?_eq_some_iff.1 hg).1, fun i hi => ?_⟩⟩
  rw [cell_of_row _ _ _ _ _ _ hh, Nat.zero_add]
  have hi' : i < L.length := by omega
  by_cases e : k = i
  · subst e
    simp [hi', show k < cur.size by omega]
  · have := hc i hi
    simp only [List.getD, List.getElem?_set, if_neg e]
    rw [Array.getElem?_setIfInBounds, if_neg e]
    exact this
theorem bols_row {w : World} {base n : Nat} {v : Value} {L : List Bool} (h : w.ownsRow base 4 1 v n (bols L)) : ∃ a cap, v = .slice a n cap ∧ Bols w a n L := by
  have hn : L.length = n := by simpa [bols] using h.1
  obtain ⟨a, cap, rfl⟩ := own_form2 h
  refine ⟨a, cap, rfl, hn, fun hp => ?_⟩
  obtain ⟨g, cap', cur, e, hb, hg, hs, _, _, hc⟩ := own_blockB h hp
  cases e
  exact ⟨g, 0, rfl, (Array.getElem?_eq_some_iff.1 hg).1, fun i hi => by rw [cell_of_row _ _ _ _ _ _ hg, Nat.zero_add]; exact hc i hi⟩
theorem getD_bitsOf (B : List Int) (n i : Nat) (h : i < n) : (bitsOf B n).getD i false = onB B i := by
  simp only [List.getD, bitsOf_get B n i h, Option.getD_some]
theorem hv_lt (f : Nat → Bool) (j : Nat) (h : j < 8) : 0 ≤ hv f j ∧ hv f j ≤ 127 := by
  have h1 := hv_bd f j
  have h2 : (2 : Int) ^ j ≤ 2 ^ 7 := by
    have : ∀ j : Fin 8, (2 : Int) ^ j.val ≤ 2 ^ 7 := by decide
    exact this ⟨j, h⟩
  omega
set_option maxRecDepth 20000 in
set_option maxHeartbeats 2000000 in
theorem rbytes_any (n : Nat) (B : List Int) (a : Option Addr) (cap : Nat) (w : World) (hn : B.length = n) (hB : Byt B) (hl : n ≤ 1000) (hR : Bols w a (8 * n) (bitsOf B (8 * n))) :
    Calls Try.prog 20 #[.slice a (8 * n) cap] w fun e w' => e = .returned (.string (strOfNums B)) ∧ Below w.heap.size w w' := by
  have HB : Box (Byt B ∧ B.length = n) := ⟨hB, hn⟩
  have HR : Box (∀ x, Below w.heap.size w x → Bols x a (8 * n) (bitsOf B (8 * n))) := ⟨fun x hx => hR.below hx⟩
  clear hB hn hR
  go_enter Try.func20, Try.ntmps20
  go_wp2
  go_loopw [3, 4] (fun v i wr => ∃ k : Nat, k ≤ n ∧ i = .int .i64 (8 * (k : Int)) ∧ Box (Gr w wr 5 v k ((B.take k).map (Value.int .u8)))) (fun _ i _ => 8 * n - (intOf i).toNat)
  case atStart => exact ⟨0, Nat.zero_le _, rfl, ⟨⟨World.ownsRow_nil _ _ _ _, Below.refl _ _⟩⟩⟩
  case round =>
    obtain ⟨r, hr, rfl, HG⟩ := hrel
    by_cases hlt : r < n
    · have hlt2 : 8 * (r : Int) + 7 < 8 * (n : Int) := by omega
      obtain ⟨f, hf⟩ : ∃ f : Nat → Bool, Box (f = fun k => onB B (8 * r + k)) := ⟨_, ⟨rfl⟩⟩
      have HE : Box (hv f 8 = B.getD r 0) := ⟨by rw [hf.out]; exact hv_row B r HB.out.1⟩
      have hRw := HR.out wr HG.out.bel
      obtain ⟨b, o, rfl, _, hc⟩ := hRw.2 (by omega)
      have HC : Box (∀ k, k < 8 → wr.cell? ⟨b, o + (8 * r + k), none⟩ = some (.bool (f k))) := ⟨fun k hk => by rw [hc (8 * r + k) (by omega), getD_bitsOf _ _ _ (by omega), hf.out]⟩
      clear hc hRw
      go_wp2
      go_loop [5, 6] (fun c j => ∃ k : Nat, k ≤ 8 ∧ j = .int .i64 (7 - (k : Int)) ∧ c = .int .u8 (hv f k)) (fun _ j => (intOf j + 1).toNat)
      case atStart => exact ⟨0, by omega, rfl, rfl⟩
      case round =>
        obtain ⟨k, hk, rfl, rfl⟩ := hrel
        by_cases hk8 : k < 8
        · obtain ⟨m, hm⟩ : ∃ m : Nat, Box (7 - k = m) := ⟨_, ⟨rfl⟩⟩
          have hm2 : 7 - (k : Int) = (m : Int) := by have := hm.out; omega
          have hm8 : m < 8 := by have := hm.out; omega
          have hc := HC.out m hm8
          have hh := hv_lt f k hk8
          have HN : Box (hv f (k + 1) = hv f k * 2 + if f m then 1 else 0) := ⟨by rw [← hm.out]; rfl⟩
          obtain ⟨q, hq⟩ : ∃ q : Nat, Box (8 * r + m = q) := ⟨_, ⟨rfl⟩⟩
          have hq2 : 8 * (r : Int) + (m : Int) = (q : Int) := by have := hq.out; omega
          have hq3 : q < 8 * n := by have := hq.out; omega
          rw [hq.out] at hc
          generalize hv f k = c at hh HN
          cases hfm : f m
          · rw [hfm] at hc HN
            have HN2 : Box (c * 2 = hv f (k + 1)) := ⟨by rw [HN.out]; simp⟩
            clear HN hfm
            go_wp2
            go_round
            case rel => exact ⟨k + 1, by omega, by congr 1; have := hm.out; omega, by rw [← HN2.out]⟩
            case measure => simp [intOf]; have := hm.out; omega
          · rw [hfm] at hc HN
            have HN2 : Box (c * 2 + 1 = hv f (k + 1)) := ⟨by rw [HN.out]; simp⟩
            clear HN hfm
            go_wp2
            go_round
            case rel => exact ⟨k + 1, by omega, by congr 1; have := hm.out; omega, by rw [← HN2.out]⟩
            case measure => simp [intOf]; have := hm.out; omega
        · obtain rfl : k = 8 := by omega
          rw [HE.out]
          have HS : Box (∀ v' w', w'.ownsRow w.heap.size 5 1 v' (r + 1) ((B.take r).map (Value.int .u8) ++ [.int .u8 (B.getD r 0)]) → wr.grownBy w' u3.ownBlock → Gr w w' 5 v' (r + 1) ((B.take (r + 1)).map (Value.int .u8))) := ⟨fun v' w' h1 h2 => by
            have h3 := HG.out.step h1 h2
            have hl : r < B.length := by rw [HB.out.2]; exact hlt
            have e : B.getD r 0 = B[r] := by simp [List.getD, hl]
            rw [List.take_succ_eq_append_getElem hl, List.map_append]
            rw [e] at h3
            exact h3⟩
          generalize B.getD r 0 = c at HE HS ⊢
          have HL : Box (r ≤ 1000000) := ⟨by omega⟩
          go_wp2_with (at_builtin; refine wpList_appR 22 5 Try.underlying22 1 1 (.int .u8 0) info5 rfl (by decide) rfl _ _ rfl w.heap.size r _ _ [.int .u8 c] _ rfl rfl rfl HG.out.row rfl (by simp [Value.oneCell']) HL.out (by omega) (by omega) HG.out.bel.size ?_; intro v' w' h5 h6; have H5 : Box (Gr w w' 5 v' (r + 1) ((B.take (r + 1)).map (Value.int .u8))) := ⟨HS.out v' w' h5 h6⟩; clear h5 h6)
          go_roundw
          case rel => exact ⟨r + 1, by omega, by congr 1, H5⟩
          case measure => simp [intOf]; omega
    · obtain rfl : r = n := by omega
      have hlt2 : ¬ 8 * (r : Int) + 7 < 8 * (r : Int) := by omega
      have hg := HG.out.row
      rw [List.take_of_length_le (by rw [HB.out.2]; exact Nat.le_refl _)] at hg
      obtain ⟨a3, c3, rfl⟩ := own_form hg
      have H9 : Box (Bytes wr a3 r B) := ⟨own_bytes hg HB.out.1⟩
      clear hg
      go_wp2_with (refine wpList_run rfl _ _ (exec_conv (.tmp 32) rfl rfl H9.out) ?_)
      go_ret
      exact ⟨rfl, HG.out.bel⟩
end Go.Proofs.Ytjfcliihgpkhdaa
