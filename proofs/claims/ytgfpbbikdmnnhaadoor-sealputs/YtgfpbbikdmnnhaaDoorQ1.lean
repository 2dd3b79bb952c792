/-
  What the reference's quarter answers, for all words.
-/
import Derived.Test.YtgfpbbikdmnnhaaDoorR1
import Derived.Deep.Cut
import Derived.Deep.CutRange
namespace Go.Proofs.YtgfpbbikdmnnhaaDoor
set_option linter.unusedVariables false
open Go.RowKit Plain

/-- Words in block S, noughts in the next one, all else as it was. -/
def Qs (w wx : World) (S : Nat) (L : List Int) : Prop := Ws wx S L ∧ wx.heap[S + 1]? = some (.cells (fil [] 16) 62 (0, 0)) ∧ Below S w wx
theorem Qs.step {w wx : World} {S : Nat} {L : List Int} (h : Qs w wx S L) (i : Nat) (v : Int) (hv : W32 v) : Qs w (wx.drew.setCell ⟨S, i, none⟩ (.int .u32 v)) S (L.set i v) :=
  ⟨h.1.drew.set i v hv, by rw [heap_setCell_other wx.drew ⟨S, i, none⟩ (S + 1) _ (fun e => by simp at e)]; exact h.2.1, below_set (w' := wx.drew) ⟨h.2.2.os, h.2.2.tape, h.2.2.output, h.2.2.size, h.2.2.block⟩ (Nat.le_refl _) _⟩

set_option maxRecDepth 20000 in
set_option maxHeartbeats 4000000 in
theorem quarter_any (L : List Int) (a b c d : Nat) (w : World) (hL : L.length = 16) (hw : Wrd L) (ha : a < 16) (hb : b < 16) (hc : c < 16) (hd : d < 16) :
    Calls Tryd.prog 35 #[.agg (u32s L), .int .i64 a, .int .i64 b, .int .i64 c, .int .i64 d] w fun e w' => e = .returned (.agg (u32s (qr L a b c d))) ∧ Below w.heap.size w w' := by
  obtain ⟨S, hS⟩ : ∃ S, w.heap.size = S := ⟨_, rfl⟩
  have HS : Hid (w.heap.size = S) := hS
  have z16 : (fil [] 16) = #[.int .u32 0, .int .u32 0, .int .u32 0, .int .u32 0, .int .u32 0, .int .u32 0, .int .u32 0, .int .u32 0, .int .u32 0, .int .u32 0, .int .u32 0, .int .u32 0, .int .u32 0, .int .u32 0, .int .u32 0, .int .u32 0] := rfl
  have Q0 : Box (Qs w ((w.alloc (.cells (u32s L) 62)).alloc (.cells (fil [] 16) 62)) S L) := ⟨⟨hL, hw, al_old (al_at hS)⟩, al_at (by simp [hS]), by rw [← hS]; exact ((Below.refl _ _).alloc (Nat.le_refl _) _).alloc (by simp) _⟩
  rw [z16] at Q0
  clear hS z16 hw hL
  go_enter Tryd.func35, Tryd.ntmps35
  go_wp2
  rw [HS.out]
  generalize (w.alloc (.cells (u32s L) 62)).alloc _ = x0 at Q0 ⊢
  go_cut [] from 11 (fun wx => Box (Qs w wx S (ad L a b)))
  case first =>
    obtain ⟨x, HX⟩ : ∃ x, Box (L.getD a 0 = x) := ⟨_, ⟨rfl⟩⟩
    obtain ⟨y, HY⟩ : ∃ x, Box (L.getD b 0 = x) := ⟨_, ⟨rfl⟩⟩
    have c1 := Q0.out.1.cell a ha
    have c2 := Q0.out.1.cell b hb
    have f1 := Q0.out.1.frozen a
    have b1 := Q0.out.1.2.1 a
    have b2 := Q0.out.1.2.1 b
    rw [HX.out] at c1 b1
    rw [HY.out] at c2 b2
    obtain ⟨b3, b4⟩ := b1
    obtain ⟨b5, b6⟩ := b2
    have HN : Box (Qs w (x0.drew.setCell ⟨S, a, none⟩ (.int .u32 ((x + y) % 4294967296))) S (ad L a b)) := ⟨by have := Q0.out.step a _ (W32.wrap (x + y)); rw [ad, HX.out, HY.out]; exact this⟩
    go_region
    all_goals (go_wp2_with fail; go_meet; exact HN)
  case rest =>
  obtain ⟨L1, E1⟩ := named (ad L a b)
  rw [E1.out] at hcut
  have Q1 := hcut
  clear hcut Q0
  rename World => x1
  go_wp2_with fail
  go_cut [] from 20 (fun wx => Box (Qs w wx S (tn L1 d a 16)))
  case first =>
    obtain ⟨x, HX⟩ : ∃ x, Box (L1.getD d 0 = x) := ⟨_, ⟨rfl⟩⟩
    obtain ⟨y, HY⟩ : ∃ x, Box (L1.getD a 0 = x) := ⟨_, ⟨rfl⟩⟩
    have c1 := Q1.out.1.cell d hd
    have c2 := Q1.out.1.cell a ha
    have f1 := Q1.out.1.frozen d
    have b1 := Q1.out.1.2.1 d
    have b2 := Q1.out.1.2.1 a
    rw [HX.out] at c1 b1
    rw [HY.out] at c2 b2
    obtain ⟨b3, b4⟩ := b1
    obtain ⟨b5, b6⟩ := b2
    have HN : Box (Qs w (x1.drew.setCell ⟨S, d, none⟩ (.int .u32 (rotl (bits .xor .u32 x y) 16))) S (tn L1 d a 16)) := ⟨by have := Q1.out.step d _ (W32.rotl (bits .xor .u32 x y) 16); rw [tn, HX.out, HY.out]; exact this⟩
    have hxy : W32 (bits .xor .u32 x y) := W32.bits _ _ _
    go_region_with (go_at_call 38; refine (left_k _ _ _ hxy (by decide) (by decide)).mono ?_; rintro e w' ⟨rfl, rfl⟩)
    all_goals (go_wp2_with fail; go_meet; exact HN)
  case rest =>
  obtain ⟨L2, E2⟩ := named (tn L1 d a 16)
  rw [E2.out] at hcut
  have Q2 := hcut
  clear hcut Q1
  rename World => x2
  go_wp2_with fail
  go_cut [] from 30 (fun wx => Box (Qs w wx S (ad L2 c d)))
  case first =>
    obtain ⟨x, HX⟩ : ∃ x, Box (L2.getD c 0 = x) := ⟨_, ⟨rfl⟩⟩
    obtain ⟨y, HY⟩ : ∃ x, Box (L2.getD d 0 = x) := ⟨_, ⟨rfl⟩⟩
    have c1 := Q2.out.1.cell c hc
    have c2 := Q2.out.1.cell d hd
    have f1 := Q2.out.1.frozen c
    have b1 := Q2.out.1.2.1 c
    have b2 := Q2.out.1.2.1 d
    rw [HX.out] at c1 b1
    rw [HY.out] at c2 b2
    obtain ⟨b3, b4⟩ := b1
    obtain ⟨b5, b6⟩ := b2
    have HN : Box (Qs w (x2.drew.setCell ⟨S, c, none⟩ (.int .u32 ((x + y) % 4294967296))) S (ad L2 c d)) := ⟨by have := Q2.out.step c _ (W32.wrap (x + y)); rw [ad, HX.out, HY.out]; exact this⟩
    go_region
    all_goals (go_wp2_with fail; go_meet; exact HN)
  case rest =>
  obtain ⟨L3, E3⟩ := named (ad L2 c d)
  rw [E3.out] at hcut
  have Q3 := hcut
  clear hcut Q2
  rename World => x3
  go_wp2_with fail
  go_cut [] from 39 (fun wx => Box (Qs w wx S (tn L3 b c 12)))
  case first =>
    obtain ⟨x, HX⟩ : ∃ x, Box (L3.getD b 0 = x) := ⟨_, ⟨rfl⟩⟩
    obtain ⟨y, HY⟩ : ∃ x, Box (L3.getD c 0 = x) := ⟨_, ⟨rfl⟩⟩
    have c1 := Q3.out.1.cell b hb
    have c2 := Q3.out.1.cell c hc
    have f1 := Q3.out.1.frozen b
    have b1 := Q3.out.1.2.1 b
    have b2 := Q3.out.1.2.1 c
    rw [HX.out] at c1 b1
    rw [HY.out] at c2 b2
    obtain ⟨b3, b4⟩ := b1
    obtain ⟨b5, b6⟩ := b2
    have HN : Box (Qs w (x3.drew.setCell ⟨S, b, none⟩ (.int .u32 (rotl (bits .xor .u32 x y) 12))) S (tn L3 b c 12)) := ⟨by have := Q3.out.step b _ (W32.rotl (bits .xor .u32 x y) 12); rw [tn, HX.out, HY.out]; exact this⟩
    have hxy : W32 (bits .xor .u32 x y) := W32.bits _ _ _
    go_region_with (go_at_call 38; refine (left_k _ _ _ hxy (by decide) (by decide)).mono ?_; rintro e w' ⟨rfl, rfl⟩)
    all_goals (go_wp2_with fail; go_meet; exact HN)
  case rest =>
  obtain ⟨L4, E4⟩ := named (tn L3 b c 12)
  rw [E4.out] at hcut
  have Q4 := hcut
  clear hcut Q3
  rename World => x4
  go_wp2_with fail
  go_cut [] from 49 (fun wx => Box (Qs w wx S (ad L4 a b)))
  case first =>
    obtain ⟨x, HX⟩ : ∃ x, Box (L4.getD a 0 = x) := ⟨_, ⟨rfl⟩⟩
    obtain ⟨y, HY⟩ : ∃ x, Box (L4.getD b 0 = x) := ⟨_, ⟨rfl⟩⟩
    have c1 := Q4.out.1.cell a ha
    have c2 := Q4.out.1.cell b hb
    have f1 := Q4.out.1.frozen a
    have b1 := Q4.out.1.2.1 a
    have b2 := Q4.out.1.2.1 b
    rw [HX.out] at c1 b1
    rw [HY.out] at c2 b2
    obtain ⟨b3, b4⟩ := b1
    obtain ⟨b5, b6⟩ := b2
    have HN : Box (Qs w (x4.drew.setCell ⟨S, a, none⟩ (.int .u32 ((x + y) % 4294967296))) S (ad L4 a b)) := ⟨by have := Q4.out.step a _ (W32.wrap (x + y)); rw [ad, HX.out, HY.out]; exact this⟩
    go_region
    all_goals (go_wp2_with fail; go_meet; exact HN)
  case rest =>
  obtain ⟨L5, E5⟩ := named (ad L4 a b)
  rw [E5.out] at hcut
  have Q5 := hcut
  clear hcut Q4
  rename World => x5
  go_wp2_with fail
  go_cut [] from 58 (fun wx => Box (Qs w wx S (tn L5 d a 8)))
  case first =>
    obtain ⟨x, HX⟩ : ∃ x, Box (L5.getD d 0 = x) := ⟨_, ⟨rfl⟩⟩
    obtain ⟨y, HY⟩ : ∃ x, Box (L5.getD a 0 = x) := ⟨_, ⟨rfl⟩⟩
    have c1 := Q5.out.1.cell d hd
    have c2 := Q5.out.1.cell a ha
    have f1 := Q5.out.1.frozen d
    have b1 := Q5.out.1.2.1 d
    have b2 := Q5.out.1.2.1 a
    rw [HX.out] at c1 b1
    rw [HY.out] at c2 b2
    obtain ⟨b3, b4⟩ := b1
    obtain ⟨b5, b6⟩ := b2
    have HN : Box (Qs w (x5.drew.setCell ⟨S, d, none⟩ (.int .u32 (rotl (bits .xor .u32 x y) 8))) S (tn L5 d a 8)) := ⟨by have := Q5.out.step d _ (W32.rotl (bits .xor .u32 x y) 8); rw [tn, HX.out, HY.out]; exact this⟩
    have hxy : W32 (bits .xor .u32 x y) := W32.bits _ _ _
    go_region_with (go_at_call 38; refine (left_k _ _ _ hxy (by decide) (by decide)).mono ?_; rintro e w' ⟨rfl, rfl⟩)
    all_goals (go_wp2_with fail; go_meet; exact HN)
  case rest =>
  obtain ⟨L6, E6⟩ := named (tn L5 d a 8)
  rw [E6.out] at hcut
  have Q6 := hcut
  clear hcut Q5
  rename World => x6
  go_wp2_with fail
  go_cut [] from 68 (fun wx => Box (Qs w wx S (ad L6 c d)))
  case first =>
    obtain ⟨x, HX⟩ : ∃ x, Box (L6.getD c 0 = x) := ⟨_, ⟨rfl⟩⟩
    obtain ⟨y, HY⟩ : ∃ x, Box (L6.getD d 0 = x) := ⟨_, ⟨rfl⟩⟩
    have c1 := Q6.out.1.cell c hc
    have c2 := Q6.out.1.cell d hd
    have f1 := Q6.out.1.frozen c
    have b1 := Q6.out.1.2.1 c
    have b2 := Q6.out.1.2.1 d
    rw [HX.out] at c1 b1
    rw [HY.out] at c2 b2
    obtain ⟨b3, b4⟩ := b1
    obtain ⟨b5, b6⟩ := b2
    have HN : Box (Qs w (x6.drew.setCell ⟨S, c, none⟩ (.int .u32 ((x + y) % 4294967296))) S (ad L6 c d)) := ⟨by have := Q6.out.step c _ (W32.wrap (x + y)); rw [ad, HX.out, HY.out]; exact this⟩
    go_region
    all_goals (go_wp2_with fail; go_meet; exact HN)
  case rest =>
  obtain ⟨L7, E7⟩ := named (ad L6 c d)
  rw [E7.out] at hcut
  have Q7 := hcut
  clear hcut Q6
  rename World => x7
  go_wp2_with fail
  go_cut [] from 77 (fun wx => Box (Qs w wx S (tn L7 b c 7)))
  case first =>
    obtain ⟨x, HX⟩ : ∃ x, Box (L7.getD b 0 = x) := ⟨_, ⟨rfl⟩⟩
    obtain ⟨y, HY⟩ : ∃ x, Box (L7.getD c 0 = x) := ⟨_, ⟨rfl⟩⟩
    have c1 := Q7.out.1.cell b hb
    have c2 := Q7.out.1.cell c hc
    have f1 := Q7.out.1.frozen b
    have b1 := Q7.out.1.2.1 b
    have b2 := Q7.out.1.2.1 c
    rw [HX.out] at c1 b1
    rw [HY.out] at c2 b2
    obtain ⟨b3, b4⟩ := b1
    obtain ⟨b5, b6⟩ := b2
    have HN : Box (Qs w (x7.drew.setCell ⟨S, b, none⟩ (.int .u32 (rotl (bits .xor .u32 x y) 7))) S (tn L7 b c 7)) := ⟨by have := Q7.out.step b _ (W32.rotl (bits .xor .u32 x y) 7); rw [tn, HX.out, HY.out]; exact this⟩
    have hxy : W32 (bits .xor .u32 x y) := W32.bits _ _ _
    go_region_with (go_at_call 38; refine (left_k _ _ _ hxy (by decide) (by decide)).mono ?_; rintro e w' ⟨rfl, rfl⟩)
    all_goals (go_wp2_with fail; go_meet; exact HN)
  case rest =>
  obtain ⟨L8, E8⟩ := named (tn L7 b c 7)
  rw [E8.out] at hcut
  have Q8 := hcut
  clear hcut Q7
  rename World => x8
  have HE : Box (qr L a b c d = L8) := ⟨by rw [qr, E1.out, E2.out, E3.out, E4.out, E5.out, E6.out, E7.out, E8.out]⟩
  clear E1 E2 E3 E4 E5 E6 E7 E8
  have hsz : (u32s L8).size = 16 := by rw [size_u32s, Q8.out.1.1]
  have hall := all_u32s L8
  go_wp2_with (first | (refine wpList_load_row rfl 62 _ rfl S rfl 62 (u32s L8) (0, 0) _ Q8.out.1.2.2 Tryd.underlying62 rfl (by rw [hsz]; kernel_rfl) ?_) | (refine wpList_store_row rfl 62 _ _ rfl (S + 1) (u32s L8) rfl rfl 62 (fil [] 16) Q8.out.2.1 (by rw [hsz]; kernel_rfl) (by rw [hsz]; rfl) hall ?_))
  (try simp only [Exit.inBlock, Exit.then])
  refine bodyPost_ret (results_cell_row (p := 10) (ty := 62) rfl _ _ (S + 1) 62 (u32s L8) (0, 0) _ rfl (setRow_heap _ _ _ _ _ _ Q8.out.2.1) Tryd.underlying62 rfl (by rw [hsz]; kernel_rfl)) rfl ?_
  exact ⟨by rw [HE.out], by rw [HS.out]; exact below_setRow Q8.out.2.2 (by omega) _⟩
end Go.Proofs.YtgfpbbikdmnnhaaDoor
