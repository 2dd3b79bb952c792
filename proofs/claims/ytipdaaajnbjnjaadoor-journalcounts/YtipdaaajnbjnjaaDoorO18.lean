/-
  What the Go function mixed of package cipher answers, for all words.
-/
import Derived.Test.YtipdaaajnbjnjaaDoorO17
namespace Go.Proofs.YtipdaaajnbjnjaaDoor.Seal.Plain
set_option maxRecDepth 100000
end Go.Proofs.YtipdaaajnbjnjaaDoor.Seal.Plain
namespace Go.Proofs.YtipdaaajnbjnjaaDoor.Seal
set_option maxRecDepth 100000
set_option linter.unusedVariables false
open Go.RowKit Go.Proofs.YtipdaaajnbjnjaaDoor.Plain Go.Proofs.YtipdaaajnbjnjaaDoor.Seal.Plain
/-- The table that package cipher keeps holds what the document says. -/
def Tab (w : World) : Prop := 2 < w.heap.size ∧ ∀ i, i < 32 → w.cell? ⟨2, i, none⟩ = some (.int .i64 (qt.getD i 0))
theorem Tab.below {w w' : World} (h : Tab w) (hb : Below w.heap.size w w') : Tab w' :=
  ⟨Nat.lt_of_lt_of_le h.1 hb.size, fun i hi => (hb.cell h.1).trans (h.2 i hi)⟩
theorem Tab.range {w : World} (h : Tab w) : w.rangeAt 2 0 (qt.map (Value.int .i64)) := by
  intro j v hj
  have hlt : j < qt.length := by simpa using (List.getElem?_eq_some_iff.1 hj).1
  rw [Nat.zero_add, h.2 j hlt, ← hj]
  simp [hlt]
theorem index53 (j : Nat) (hj : j < 8) (w : World) : (Instr.index 187 (.agg (qt.map (Value.int .i64)).toArray) (.int .i64 j)).run Tryd.prog w = .ok (.agg #[.int .i64 (qa j 0), .int .i64 (qa j 1), .int .i64 (qa j 2), .int .i64 (qa j 3)]) w := by
  have h : j = 0 ∨ j = 1 ∨ j = 2 ∨ j = 3 ∨ j = 4 ∨ j = 5 ∨ j = 6 ∨ j = 7 := by omega
  rcases h with rfl | rfl | rfl | rfl | rfl | rfl | rfl | rfl <;> rfl
theorem Qs.but {w wx wy : World} {S : Nat} {L L' : List Int} (h : Qs w wx S L) (h1 : Ws wy S L') (h2 : But S wx wy) : Qs w wy S L' := by
  have hl := (Array.getElem?_eq_some_iff.1 h.2.1).1
  exact ⟨h1, (h2.block _ hl (by omega)).trans h.2.1, h.2.2.trans (h2.below (Nat.le_refl _) (by omega))⟩
theorem Qs.on {w wx wy : World} {S : Nat} {L : List Int} (h : Qs w wx S L) (h2 : Below wx.heap.size wx wy) : Qs w wy S L := by
  have hl := (Array.getElem?_eq_some_iff.1 h.2.1).1
  exact ⟨h.1.below h2, (h2.block _ hl).trans h.2.1, h.2.2.trans (h2.mono (by omega))⟩
theorem Qs.drewN {w wx : World} {S : Nat} {L : List Int} (h : Qs w wx S L) (n : Nat) : Qs w (wx.drewN n) S L := ⟨h.1, h.2.1, h.2.2.os, h.2.2.tape, h.2.2.output, h.2.2.size, h.2.2.block⟩
theorem turn_k (S d a n : Nat) (k : Int) (hk : k = n) (L : List Int) (w : World) (h : Ws w S L) (hd : d < 16) (ha : a < 16) (hn : 1 ≤ n) (hn' : n ≤ 31) :
    Calls Tryd.prog 100 #[.int .i64 d, .int .i64 a, .int .i64 k, .pointer (some ⟨S, 0, none⟩)] w fun e w' => e = .returned (.tuple #[]) ∧ Ws w' S (tn L d a n) ∧ But S w w' := by
  subst hk; exact turn_any S d a n L w h hd ha hn hn'
set_option maxRecDepth 20000 in
set_option maxHeartbeats 4000000 in
theorem mixed_any (L : List Int) (w : World) (hL : L.length = 16) (hw : Wrd L) (hT : Tab w) :
    Calls Tryd.prog 98 #[.agg (u32s L)] w fun e w' => e = .returned (.agg (u32s (rn L 10))) ∧ Below w.heap.size w w' := by
  obtain ⟨S, hS⟩ : ∃ S, w.heap.size = S := ⟨_, rfl⟩
  have HS : Hid (w.heap.size = S) := hS
  have z16 : (fil [] 16) = #[.int .u32 0, .int .u32 0, .int .u32 0, .int .u32 0, .int .u32 0, .int .u32 0, .int .u32 0, .int .u32 0, .int .u32 0, .int .u32 0, .int .u32 0, .int .u32 0, .int .u32 0, .int .u32 0, .int .u32 0, .int .u32 0] := rfl
  have Q0 : Box (Qs w ((w.alloc (.cells (u32s L) 177)).alloc (.cells (fil [] 16) 177)) S L) := ⟨⟨hL, hw, al_old (al_at hS)⟩, al_at (by simp [hS]), by rw [← hS]; exact ((Below.refl _ _).alloc (Nat.le_refl _) _).alloc (by simp) _⟩
  rw [z16] at Q0
  have hmf : ∀ (fn : Fn) (first cap : Array Value) (w : World), (Instr.makeFunc fn first cap).run Tryd.prog w = .ok (.func fn first cap) w := fun _ _ _ _ => rfl
  have HT : Box (∀ wx L, Qs w wx S L → wx.rangeAt 2 0 (qt.map (Value.int .i64))) := ⟨fun wx L h => (hT.below (by rw [HS.out]; exact h.2.2)).range⟩
  clear hS z16 hw hL hT
  go_enter Tryd.func98, Tryd.ntmps98
  go_wp2
  rw [HS.out]
  generalize (w.alloc (.cells (u32s L) 177)).alloc _ = x0 at Q0 ⊢
  clear hmf
  go_loopw [11] (fun i wr => ∃ k : Nat, k ≤ 10 ∧ i = .int .i64 k ∧ Box (Qs w wr S (rn L k))) (fun i _ => 10 - (intOf i).toNat)
  case atStart => exact ⟨0, by omega, rfl, Q0⟩
  case round =>
    clear Q0
    obtain ⟨k, hk, rfl, HQ⟩ := hrel
    by_cases hlt : k < 10
    · obtain ⟨L0, E0⟩ := named (rn L k)
      rw [E0.out] at HQ
      go_wp2_with (refine wpList_load_mid rfl 187 (.global 2) rfl 2 0 rfl (qt.map (Value.int .i64)) _ (HT.out _ _ HQ.out) Tryd.underlying187 rfl (by kernel_rfl) ?_)
      go_loopw [14] (fun i wr => ∃ j : Nat, j ≤ 8 ∧ i = .int .i64 j ∧ Box (Qs w wr S (row L0 j))) (fun i _ => 8 - (intOf i).toNat)
      case atStart => exact ⟨0, by omega, rfl, HQ⟩
      case round =>
        clear HQ
        obtain ⟨j, hj, rfl, HQ⟩ := hrel
        by_cases hlt8 : j < 8
        · have hidx := index53 j hlt8
          have HP : Box (qr (row L0 j) (qa j 0) (qa j 1) (qa j 2) (qa j 3) = row L0 (j + 1)) := ⟨rfl⟩
          obtain ⟨p, Hp⟩ : ∃ p, Box (qa j 0 = p) := ⟨_, ⟨rfl⟩⟩
          obtain ⟨q, Hq⟩ : ∃ p, Box (qa j 1 = p) := ⟨_, ⟨rfl⟩⟩
          obtain ⟨r, Hr⟩ : ∃ p, Box (qa j 2 = p) := ⟨_, ⟨rfl⟩⟩
          obtain ⟨s, Hs⟩ : ∃ p, Box (qa j 3 = p) := ⟨_, ⟨rfl⟩⟩
          have hp : p < 16 := by rw [← Hp.out]; exact (qa_lt j 0 hlt8 (by omega)).1
          have hq : q < 16 := by rw [← Hq.out]; exact (qa_lt j 1 hlt8 (by omega)).1
          have hr : r < 16 := by rw [← Hr.out]; exact (qa_lt j 2 hlt8 (by omega)).1
          have hs : s < 16 := by rw [← Hs.out]; exact (qa_lt j 3 hlt8 (by omega)).1
          rw [Hp.out, Hq.out, Hr.out, Hs.out] at HP hidx
          clear Hp Hq Hr Hs
          obtain ⟨M, HM⟩ := named (row L0 j)
          rw [HM.out] at HP HQ
          go_wp2
          have HX : Box (Qs w (wr.alloc (Obj.cells #[Value.int IntKind.i64 ↑p, Value.int IntKind.i64 ↑q, Value.int IntKind.i64 ↑r, Value.int IntKind.i64 ↑s] 186)) S M) := ⟨HQ.out.on ((Below.refl _ _).alloc (Nat.le_refl _) _)⟩
          have hG : (wr.alloc (Obj.cells #[Value.int IntKind.i64 ↑p, Value.int IntKind.i64 ↑q, Value.int IntKind.i64 ↑r, Value.int IntKind.i64 ↑s] 186)).heap[wr.heap.size]? = some (Obj.cells #[Value.int IntKind.i64 ↑p, Value.int IntKind.i64 ↑q, Value.int IntKind.i64 ↑r, Value.int IntKind.i64 ↑s] 186) := al_at rfl
          generalize wr.alloc (Obj.cells #[Value.int IntKind.i64 ↑p, Value.int IntKind.i64 ↑q, Value.int IntKind.i64 ↑r, Value.int IntKind.i64 ↑s] 186) = y1 at HX hG ⊢
          generalize wr.heap.size = G at hG ⊢
          clear HQ
          have c0 : y1.cell? ⟨G, 0, none⟩ = some (.int .i64 p) := by rw [cell_of_row _ _ _ _ _ _ hG]; rfl
          have c1 : y1.cell? ⟨G, 1, none⟩ = some (.int .i64 q) := by rw [cell_of_row _ _ _ _ _ _ hG]; rfl
          have c2 : y1.cell? ⟨G, 2, none⟩ = some (.int .i64 r) := by rw [cell_of_row _ _ _ _ _ _ hG]; rfl
          have c3 : y1.cell? ⟨G, 3, none⟩ = some (.int .i64 s) := by rw [cell_of_row _ _ _ _ _ _ hG]; rfl
          clear hG
          go_quiet (fail)
          have Q0 : Box (Qs w (y1.drewN nq) S M) := ⟨HX.out.drewN nq⟩
          clear c0 c1 c2 c3 HX
          generalize y1.drewN nq = x1 at Q0 ⊢
          clear nq y1
          go_wp2
          obtain ⟨x, HX⟩ : ∃ x, Box (M.getD p 0 = x) := ⟨_, ⟨rfl⟩⟩
          obtain ⟨y, HY⟩ : ∃ x, Box (M.getD q 0 = x) := ⟨_, ⟨rfl⟩⟩
          have c1 := Q0.out.1.cell p hp
          have c2 := Q0.out.1.cell q hq
          have f1 := Q0.out.1.frozen p
          have b1 := Q0.out.1.2.1 p
          have b2 := Q0.out.1.2.1 q
          rw [HX.out] at c1 b1
          rw [HY.out] at c2 b2
          obtain ⟨b3, b4⟩ := b1
          obtain ⟨b5, b6⟩ := b2
          have Q1 : Box (Qs w (x1.setCell ⟨S, p, none⟩ (.int .u32 ((x + y) % 4294967296))).drew S (ad M p q)) := ⟨by have := Q0.out.step p _ (W32.wrap (x + y)); rw [ad, HX.out, HY.out]; exact this⟩
          go_region
          generalize (x1.setCell ⟨S, p, none⟩ (.int .u32 ((x + y) % 4294967296))).drew = x2 at Q1 ⊢
          clear HX HY c1 c2 f1 b3 b4 b5 b6 Q0
          obtain ⟨M1, E1⟩ := named (ad M p q)
          rw [E1.out] at Q1
          go_wp2_with (go_at_call 100; refine (turn_k S s p 16 16 rfl M1 _ Q1.out.1 hs hp (by decide) (by decide)).mono ?_; rintro e x3 ⟨rfl, h1, h2⟩; have Q2 : Box (Qs w x3 S (tn M1 s p 16)) := ⟨Q1.out.but h1 h2⟩; clear h1 h2)
          clear Q1
          obtain ⟨M2, E2⟩ := named (tn M1 s p 16)
          rw [E2.out] at Q2
          obtain ⟨x, HX⟩ : ∃ x, Box (M2.getD r 0 = x) := ⟨_, ⟨rfl⟩⟩
          obtain ⟨y, HY⟩ : ∃ x, Box (M2.getD s 0 = x) := ⟨_, ⟨rfl⟩⟩
          have c1 := Q2.out.1.cell r hr
          have c2 := Q2.out.1.cell s hs
          have f1 := Q2.out.1.frozen r
          have b1 := Q2.out.1.2.1 r
          have b2 := Q2.out.1.2.1 s
          rw [HX.out] at c1 b1
          rw [HY.out] at c2 b2
          obtain ⟨b3, b4⟩ := b1
          obtain ⟨b5, b6⟩ := b2
          have Q3 : Box (Qs w (x3.setCell ⟨S, r, none⟩ (.int .u32 ((x + y) % 4294967296))).drew S (ad M2 r s)) := ⟨by have := Q2.out.step r _ (W32.wrap (x + y)); rw [ad, HX.out, HY.out]; exact this⟩
          go_region
          generalize (x3.setCell ⟨S, r, none⟩ (.int .u32 ((x + y) % 4294967296))).drew = x4 at Q3 ⊢
          clear HX HY c1 c2 f1 b3 b4 b5 b6 Q2
          obtain ⟨M3, E3⟩ := named (ad M2 r s)
          rw [E3.out] at Q3
          go_wp2_with (go_at_call 100; refine (turn_k S q r 12 12 rfl M3 _ Q3.out.1 hq hr (by decide) (by decide)).mono ?_; rintro e x5 ⟨rfl, h1, h2⟩; have Q4 : Box (Qs w x5 S (tn M3 q r 12)) := ⟨Q3.out.but h1 h2⟩; clear h1 h2)
          clear Q3
          obtain ⟨M4, E4⟩ := named (tn M3 q r 12)
          rw [E4.out] at Q4
          obtain ⟨x, HX⟩ : ∃ x, Box (M4.getD p 0 = x) := ⟨_, ⟨rfl⟩⟩
          obtain ⟨y, HY⟩ : ∃ x, Box (M4.getD q 0 = x) := ⟨_, ⟨rfl⟩⟩
          have c1 := Q4.out.1.cell p hp
          have c2 := Q4.out.1.cell q hq
          have f1 := Q4.out.1.frozen p
          have b1 := Q4.out.1.2.1 p
          have b2 := Q4.out.1.2.1 q
          rw [HX.out] at c1 b1
          rw [HY.out] at c2 b2
          obtain ⟨b3, b4⟩ := b1
          obtain ⟨b5, b6⟩ := b2
          have Q5 : Box (Qs w (x5.setCell ⟨S, p, none⟩ (.int .u32 ((x + y) % 4294967296))).drew S (ad M4 p q)) := ⟨by have := Q4.out.step p _ (W32.wrap (x + y)); rw [ad, HX.out, HY.out]; exact this⟩
          go_region
          generalize (x5.setCell ⟨S, p, none⟩ (.int .u32 ((x + y) % 4294967296))).drew = x6 at Q5 ⊢
          clear HX HY c1 c2 f1 b3 b4 b5 b6 Q4
          obtain ⟨M5, E5⟩ := named (ad M4 p q)
          rw [E5.out] at Q5
          go_wp2_with (go_at_call 100; refine (turn_k S s p 8 8 rfl M5 _ Q5.out.1 hs hp (by decide) (by decide)).mono ?_; rintro e x7 ⟨rfl, h1, h2⟩; have Q6 : Box (Qs w x7 S (tn M5 s p 8)) := ⟨Q5.out.but h1 h2⟩; clear h1 h2)
          clear Q5
          obtain ⟨M6, E6⟩ := named (tn M5 s p 8)
          rw [E6.out] at Q6
          obtain ⟨x, HX⟩ : ∃ x, Box (M6.getD r 0 = x) := ⟨_, ⟨rfl⟩⟩
          obtain ⟨y, HY⟩ : ∃ x, Box (M6.getD s 0 = x) := ⟨_, ⟨rfl⟩⟩
          have c1 := Q6.out.1.cell r hr
          have c2 := Q6.out.1.cell s hs
          have f1 := Q6.out.1.frozen r
          have b1 := Q6.out.1.2.1 r
          have b2 := Q6.out.1.2.1 s
          rw [HX.out] at c1 b1
          rw [HY.out] at c2 b2
          obtain ⟨b3, b4⟩ := b1
          obtain ⟨b5, b6⟩ := b2
          have Q7 : Box (Qs w (x7.setCell ⟨S, r, none⟩ (.int .u32 ((x + y) % 4294967296))).drew S (ad M6 r s)) := ⟨by have := Q6.out.step r _ (W32.wrap (x + y)); rw [ad, HX.out, HY.out]; exact this⟩
          go_region
          generalize (x7.setCell ⟨S, r, none⟩ (.int .u32 ((x + y) % 4294967296))).drew = x8 at Q7 ⊢
          clear HX HY c1 c2 f1 b3 b4 b5 b6 Q6
          obtain ⟨M7, E7⟩ := named (ad M6 r s)
          rw [E7.out] at Q7
          go_wp2_with (go_at_call 100; refine (turn_k S q r 7 7 rfl M7 _ Q7.out.1 hq hr (by decide) (by decide)).mono ?_; rintro e x9 ⟨rfl, h1, h2⟩; have Q8 : Box (Qs w x9 S (tn M7 q r 7)) := ⟨Q7.out.but h1 h2⟩; clear h1 h2)
          go_roundw
          case rel => exact ⟨j + 1, by omega, by go_num, ⟨by rw [← HP.out, qr, E1.out, E2.out, E3.out, E4.out, E5.out, E6.out, E7.out]; exact Q8.out⟩⟩
          case measure => simp [intOf]; omega
        · obtain rfl : j = 8 := by omega
          have HE : Box (row L0 8 = rn L (k + 1)) := ⟨by rw [rn, E0.out]⟩
          rw [HE.out] at HQ
          go_wp2
          go_roundw
          case rel => exact ⟨k + 1, by omega, by go_num, HQ⟩
          case measure => simp [intOf]; omega
    · obtain rfl : k = 10 := by omega
      obtain ⟨L8, E8⟩ := named (rn L 10)
      rw [E8.out] at HQ
      have hsz : (u32s L8).size = 16 := by rw [size_u32s, HQ.out.1.1]
      have hall := all_u32s L8
      go_wp2_with (first | (refine wpList_load_row rfl 177 _ rfl S rfl 177 (u32s L8) (0, 0) _ HQ.out.1.2.2 Tryd.underlying177 rfl (by rw [hsz]; kernel_rfl) ?_) | (refine wpList_store_row rfl 177 _ _ rfl (S + 1) (u32s L8) rfl rfl 177 (fil [] 16) HQ.out.2.1 (by rw [hsz]; kernel_rfl) (by rw [hsz]; rfl) hall ?_))
      (try simp only [Exit.inBlock, Exit.then])
      refine bodyPost_ret (results_cell_row (p := 2) (ty := 177) rfl _ _ (S + 1) 177 (u32s L8) (0, 0) _ rfl (setRow_heap _ _ _ _ _ _ HQ.out.2.1) Tryd.underlying177 rfl (by rw [hsz]; kernel_rfl)) rfl ?_
      exact ⟨by rw [E8.out], by rw [HS.out]; exact below_setRow HQ.out.2.2 (by omega) _⟩
end Go.Proofs.YtipdaaajnbjnjaaDoor.Seal
