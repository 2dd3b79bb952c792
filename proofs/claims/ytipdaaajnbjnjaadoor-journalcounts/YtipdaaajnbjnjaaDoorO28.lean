/-
  What Put and Get of package record answer.
-/
import Derived.Test.YtipdaaajnbjnjaaDoorO27
namespace Go.Proofs.YtipdaaajnbjnjaaDoor
set_option maxRecDepth 100000
set_option linter.unusedVariables false
open Go.RowKit Plain
/-- A record's head, and its bytes. -/
def hd (l : Bool) : Int := if l then 257 else 1
def putP (x : (Int × List Int) × Bool) : List Int := bytesOf (hd x.2) 8 ++ bytesOf x.1.1 8 ++ x.1.2
theorem hd_bd (l : Bool) : N64 (hd l) := by cases l <;> exact ⟨by decide, by decide⟩
theorem byt_putP (x : (Int × List Int) × Bool) (h : Byt x.1.2) : Byt (putP x) := byt_app _ _ (byt_app _ _ (bytesOf_bd _ _) (bytesOf_bd _ _)) h
theorem put_k (x : Int) (w : World) (hx : N64 x) :
    Calls Tryd.prog 42 #[.int .u64 x, .int .i64 8] w fun e w' => ∃ g, e = .returned (.slice (some ⟨g, 0, none⟩) 8 8) ∧ Bytes w' (some ⟨g, 0, none⟩) 8 (bytesOf x 8) ∧ Below w.heap.size w w' :=
  (put_ok x 8 w hx.1 hx.2 (by omega) (by omega)).mono fun e w' ⟨g, he, ho⟩ => ⟨g, he, ho.bytes (bytesOf_bd _ 8), ho.2.2⟩
theorem hd_any (l : Bool) (w : World) : Calls Tryd.prog 81 #[.bool l] w fun e w' => e = .returned (.int .u64 (hd l)) ∧ w = w' := head_any l w
/-- What Put has put so far. -/
def Pu (w1 wr : World) (B : Nat) (v : Value) (n : Nat) (A : List Int) : Prop :=
  wr.ownsRow B 5 1 v n (A.map (Value.int .u8)) ∧ Below B w1 wr ∧ B ≤ wr.heap.size
theorem Pu.below {w1 wr w' : World} {B n : Nat} {v : Value} {A : List Int} (h : Pu w1 wr B v n A) (hb : Below wr.heap.size wr w') : Pu w1 w' B v n A :=
  ⟨own_later h.1 hb, h.2.1.trans (hb.mono h.2.2), Nat.le_trans h.2.2 hb.size⟩
theorem Pu.app {w1 wr w' : World} {B n m : Nat} {v v' : Value} {A L : List Int} (h : Pu w1 wr B v n A) (hw : Box (w'.ownsRow B 5 1 v' (n + m) ((A ++ L).map (Value.int .u8)) ∧ Below B wr w' ∧ B ≤ w'.heap.size)) : Pu w1 w' B v' (n + m) (A ++ L) :=
  ⟨hw.out.1, h.2.1.trans hw.out.2.1, hw.out.2.2⟩
set_option maxRecDepth 20000 in
set_option maxHeartbeats 1000000 in
theorem rcput_ok (r : Rc) (w : World) (h : Bytes w r.m.ba r.m.bl r.m.bs) (hn : N64 r.m.blk) (hl : r.m.bl = 160) :
    Calls Tryd.prog 69 #[.agg (rcc r).toArray] w fun e w' => ∃ a c, e = .returned (.tuple #[.slice a 176 c, .int .i64 0]) ∧ w'.ownsRow w.heap.size 5 1 (.slice a 176 c) 176 ((putP (rpl r)).map (Value.int .u8)) ∧ Below w.heap.size w w' := by
  obtain ⟨i0, hi, hz0, hz1, hz2⟩ := info_parts info5
  obtain ⟨S, hS⟩ : ∃ S, w.heap.size = S := ⟨_, rfl⟩
  obtain ⟨w1, hw1⟩ : ∃ w1, w.alloc (.cells (rcc r).toArray 113) = w1 := ⟨_, rfl⟩
  have hb1 : Below w.heap.size w w1 := by rw [← hw1]; exact (Below.refl _ _).alloc (Nat.le_refl _) _
  have hs1 : w1.heap.size = S + 1 := by rw [← hw1]; simp [hS]
  have r1 : w1.heap[S]? = some (.cells (rcc r).toArray 113 (0, 0)) := by rw [← hw1]; exact al_at hS
  obtain ⟨⟨blk, ba, bl, bc, bs⟩, last⟩ := r
  simp only at h hn hl
  subst hl
  have HR : Box (∀ x, Below (S + 1) w1 x → x.cell? ⟨S, 0, none⟩ = some (.int .u64 blk) ∧ x.cell? ⟨S, 1, none⟩ = some (.slice ba 160 bc) ∧ x.cell? ⟨S, 2, none⟩ = some (.bool last) ∧ x.rangeAt S 0 (imc ⟨blk, ba, 160, bc, bs⟩) ∧ Bytes x ba 160 bs) := ⟨fun x hx => by
    have r := (hx.block S (by omega)).trans r1
    refine ⟨by rw [cell_of_row _ _ _ _ _ _ r]; rfl, by rw [cell_of_row _ _ _ _ _ _ r]; rfl, by rw [cell_of_row _ _ _ _ _ _ r]; rfl, range_arr r _ (fun j v hv => ?_), h.below (hb1.trans (hx.mono (by omega)))⟩
    match j, hv with
    | 0, hv => simpa [imc, rcc] using hv
    | 1, hv => simpa [imc, rcc] using hv
    | j + 2, hv => simp [imc] at hv⟩
  have HB : Box (Below w.heap.size w w1 ∧ w1.heap.size = S + 1 ∧ w.heap.size = S) := ⟨hb1, hs1, hS⟩
  have H1 := HR.out w1 (Below.refl _ _)
  have HR1 : Box (w1.rangeAt S 0 (imc ⟨blk, ba, 160, bc, bs⟩)) := ⟨H1.2.2.2.1⟩
  clear H1 hb1 r1 hs1 h
  go_enter Tryd.func69, Tryd.ntmps69
  go_upto_region 1 with fail
  (try simp only [hw1, hS])
  clear hw1 hS
  go_upto_region 4 with (first
    | (refine atLoad 77 ?_; refine wpList_ldMid rfl 77 _ _ rfl Tryd.underlying77 rfl S 0 rfl (imc ⟨blk, ba, 160, bc, bs⟩) infoIm HR1.out ?_)
    | (go_at_call 66; refine (whole_any ⟨blk, ba, 160, bc, bs⟩ true rfl _).mono ?_; rintro e x1 ⟨rfl, hbx⟩; have HX : Box (Below (S + 1) w1 x1 ∧ S + 1 ≤ x1.heap.size) := ⟨HB.out.2.1 ▸ hbx, HB.out.2.1 ▸ hbx.size⟩; clear hbx)
    | (at_make; refine wpList_make_own _ rfl _ _ 64 rfl (S + 1) 5 i0 (.int .u8 0) 1 Tryd.underlying64 hi hz0 hz1 .i64 .i64 176 176 rfl rfl rfl (by rw [hz2]; decide) (by decide) HX.out.2 ?_; intro x2 hown hgr; have H2 : Box (Pu w1 x2 (S + 1) (.slice (some ⟨x1.heap.size, 0, none⟩) 0 176) 0 []) := ⟨hown, HX.out.1.grown hgr HX.out.2 (by simp), Nat.le_trans HX.out.2 hgr.size⟩; clear hown hgr))
  obtain ⟨g2, hg2⟩ : ∃ g, x1.heap.size = g := ⟨_, rfl⟩
  rw [hg2] at H2
  rw [hg2]
  clear hg2 HX HR1
  have c2 := (HR.out x2 H2.out.2.1).2.2.1
  go_upto_region 5 with (first
    | (go_at_call 81; refine (hd_any last _).mono ?_; rintro e x3 ⟨rfl, rfl⟩; clear c2)
    | (go_at_call 42; refine (put_k (hd last) _ (hd_bd last)).mono ?_; rintro e x3 ⟨g3, rfl, hB, hb⟩; have H3 : Box (Pu w1 x3 (S + 1) (.slice (some ⟨g2, 0, none⟩) 0 176) 0 [] ∧ Bytes x3 (some ⟨g3, 0, none⟩) 8 (bytesOf (hd last) 8)) := ⟨H2.out.below hb, hB⟩; clear hB hb)
    | (at_builtin; refine wpList_app rfl (.tmp 10) (.tmp 14) rfl (S + 1) 0 8 8 _ [] (bytesOf (hd last) 8) _ x3 rfl rfl H3.out.1.1 H3.out.2 (by decide) (Below.refl _ _) H3.out.1.2.2 ?_; intro v4 x4 h4; have H4 : Box (Pu w1 x4 (S + 1) v4 (0 + 8) ([] ++ bytesOf (hd last) 8)) := ⟨H3.out.1.app h4⟩; clear h4))
  rw [Nat.zero_add, List.nil_append] at H4
  clear H2 H3
  have c0 := (HR.out x4 H4.out.2.1).1
  go_upto_region 6 with (first
    | (go_at_call 42; refine (put_k blk _ hn).mono ?_; rintro e x5 ⟨g5, rfl, hB, hb⟩; have H5 : Box (Pu w1 x5 (S + 1) v4 8 (bytesOf (hd last) 8) ∧ Bytes x5 (some ⟨g5, 0, none⟩) 8 (bytesOf blk 8)) := ⟨H4.out.below hb, hB⟩; clear hB hb c0)
    | (at_builtin; refine wpList_app rfl (.tmp 16) (.tmp 20) rfl (S + 1) 8 8 8 _ (bytesOf (hd last) 8) (bytesOf blk 8) _ x5 rfl rfl H5.out.1.1 H5.out.2 (by decide) (Below.refl _ _) H5.out.1.2.2 ?_; intro v6 x6 h6; have H6 : Box (Pu w1 x6 (S + 1) v6 (8 + 8) (bytesOf (hd last) 8 ++ bytesOf blk 8)) := ⟨H5.out.1.app h6⟩; clear h6))
  clear H4 H5
  have c1 := (HR.out x6 H6.out.2.1).2.1
  have HBy : Box (Bytes x6 ba 160 bs) := ⟨(HR.out x6 H6.out.2.1).2.2.2.2⟩
  have H6' : Box (Pu w1 x6 (S + 1) v6 16 (bytesOf (hd last) 8 ++ bytesOf blk 8)) := ⟨H6.out⟩
  clear H6
  go_wp2_with (at_builtin; refine wpList_app rfl (.tmp 22) (.tmp 25) rfl (S + 1) 16 160 bc _ (bytesOf (hd last) 8 ++ bytesOf blk 8) bs _ x6 rfl rfl H6'.out.1 HBy.out (by decide) (Below.refl _ _) H6'.out.2.2 ?_; intro v7 x7 h7; have H7 : Box (Pu w1 x7 (S + 1) v7 (16 + 160) (bytesOf (hd last) 8 ++ bytesOf blk 8 ++ bs)) := ⟨H6'.out.app h7⟩; clear h7)
  have H8 : Box (Pu w1 x7 (S + 1) v7 176 (bytesOf (hd last) 8 ++ bytesOf blk 8 ++ bs)) := ⟨H7.out⟩
  clear H7
  obtain ⟨a7, c7, rfl⟩ := own_form H8.out.1
  go_ret2
  exact ⟨a7, c7, rfl, own_low2 H8.out.1 (by have := HB.out.2.2; omega), HB.out.1.trans (H8.out.2.1.mono (by have := HB.out.2.2; omega))⟩
end Go.Proofs.YtipdaaajnbjnjaaDoor
