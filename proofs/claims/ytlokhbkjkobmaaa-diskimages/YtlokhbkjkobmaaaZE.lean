/-
  The walk of DiskStays, for every two bytes and every two truth values.
-/
import Derived.Test.YtlokhbkjkobmaaaZD
namespace Go.Proofs.Ytlokhbkjkobmaaa
set_option linter.unusedVariables false
open Go.RowKit Plain

theorem getD_set_at (B : List Int) (i : Nat) (z : Int) (h : i < B.length) : (B.set i z).getD i 0 = z := by simp [List.getD, h]
/-- Bytes of a place with one byte set. -/
def bz (i : Nat) (z : Int) : List Int := z192.set i z
theorem length_bz (i : Nat) (z : Int) : (bz i z).length = 192 := by rw [bz, List.length_set, length_z192]
theorem byt_bz (i : Nat) (z : Int) (h : 0 ≤ z ∧ z ≤ 255) : Byt (bz i z) := byt_set _ _ _ byt_z192 h
theorem bz_at (i : Nat) (z : Int) (h : i < 192) : (bz i z).getD i 0 = z := getD_set_at _ _ _ (by rw [length_z192]; exact h)
def s1 (X : List Int) : Dk := wrOk (dk0 1) 0 X
def s3 (X Y : List Int) : Dk := wrOk (flOk (s1 X)) 0 Y
def s4 (f : Bool) (X Y : List Int) : Dk := if f then flOk (s3 X Y) else s3 X Y
def s5 (f k : Bool) (X Y : List Int) : Dk := crOk (s4 f X Y) [k]
theorem lat_s5 (f k : Bool) (X Y : List Int) : lat (s5 f k X Y) 0 = if f || k then Y else X := by
  cases f <;> cases k <;> rfl
theorem lt_rfl {a b : Nat} (h : Nat.blt a b = true) : a < b := by simpa using h
theorem left_rfl {x : Int} (h : x = 0) : 0 ≤ x ∧ x ≤ 9223372036854775807 := by omega
theorem bools_one {w : World} {g : Nat} {t : TypeId} (b : Bool) (h : w.heap[g]? = some (.cells #[.bool b] t (0, 0))) : Bools w (some ⟨g, 0, none⟩) 1 [b] :=
  ⟨rfl, fun _ => ⟨g, 0, rfl, (Array.getElem?_eq_some_iff.1 h).1, fun i hi => by
    obtain rfl : i = 0 := by omega
    rw [cell_of_row _ _ _ _ _ _ h]
    rfl⟩⟩
theorem u8_bd {a : Int} (h : (Lit.int .u8 a).wf = true) : 0 ≤ a ∧ a ≤ 255 := by
  have := bounds_u8 h
  omega
set_option maxRecDepth 20000 in
set_option maxHeartbeats 4000000 in
theorem diskStays_walk (a b : Int) (f k : Bool) (w : World) (ha : (Lit.int .u8 a).wf = true) (hb : (Lit.int .u8 b).wf = true) :
    Calls Try.prog 5 #[.int .u8 a, .int .u8 b, .bool f, .bool k] w fun e w' => e = .returned (.bool true) ∧ Below w.heap.size w w' := by
  have ha' : 0 ≤ a ∧ a ≤ 255 := (u8_bd ha)
  have hb' : 0 ≤ b ∧ b ≤ 255 := (u8_bd hb)
  have HAw : Box _ := ⟨awake_any w⟩
  have HN : Box (∀ wx, Calls Try.prog 10 #[.int .i64 1] wx fun e w' => ∃ D, e = .returned (.tuple #[.pointer (some ⟨D, 0, none⟩), .int .i64 0]) ∧ ∃ fp, Cx wx w' D fp (dk0 1)) := ⟨fun wx => (new_cx wx 1 (by omega)).mono fun e w' h => ⟨_, h⟩⟩
  go_enter Try.func5, Try.ntmps5
  go_upto_region 9 with (first
    | (go_at_call 10; refine (HN.out _).mono ?_; rintro e w1 ⟨D, rfl, fp1, hc1⟩; have C1 : Box _ := ⟨hc1⟩; clear hc1)
    | (go_at_call 9; refine HAw.out.mono ?_; rintro e wa ⟨rfl, hba⟩; have BA : Box _ := ⟨hba⟩; clear hba)
    | (refine wpList_run rfl _ _ (exec_make192 _ _ rfl rfl rfl) ?_))
  have C2 : Box (Cx wa ((w1.alloc (.cells (u8s z192) 5)).alloc (.cells (u8s z192) 5)) D fp1 (dk0 1) ∧ wa.heap.size ≤ w1.heap.size) := ⟨C1.out.step (((Below.refl _ _).alloc (Nat.le_refl _) _).alloc (by simp) _), C1.out.bel.size⟩
  have LX : Box (Loc ((w1.alloc (.cells (u8s z192) 5)).alloc (.cells (u8s z192) 5)) fp1 w1.heap.size z192 5) := ⟨(Loc.new C1.out.hi z192 5).below ((Below.refl _ _).alloc (Nat.le_refl _) _)⟩
  have LY : Box (Loc ((w1.alloc (.cells (u8s z192) 5)).alloc (.cells (u8s z192) 5)) fp1 (w1.heap.size + 1) z192 5) := ⟨al_at (by simp), fun h => by have := C1.out.hi _ h; omega⟩
  generalize (w1.alloc (.cells (u8s z192) 5)).alloc (.cells (u8s z192) 5) = w2 at C2 LX LY ⊢
  generalize w1.heap.size = x0 at C2 LX LY ⊢
  obtain ⟨cx, fx⟩ := row_cell0 LX.out 5 (by rw [length_z192]; omega)
  obtain ⟨cy, fy⟩ := row_cell0 LY.out 5 (by rw [length_z192]; omega)
  clear C1 HN HAw
  go_upto_region 11 with fail
  have C3 : Box (Cx wa ((w2.setCell ⟨x0, 5, none⟩ (.int .u8 a)).setCell ⟨x0 + 1, 5, none⟩ (.int .u8 b)) D fp1 (dk0 1)) := ⟨(C2.out.1.set x0 5 _ LX.out.no C2.out.2).set (x0 + 1) 5 _ LY.out.no (by have := C2.out.2; omega)⟩
  have MX : Box (Loc ((w2.setCell ⟨x0, 5, none⟩ (.int .u8 a)).setCell ⟨x0 + 1, 5, none⟩ (.int .u8 b)) fp1 x0 (bz 5 a) 5) := ⟨(LX.out.set 5 a).other 5 _ (by omega)⟩
  have MY : Box (Loc ((w2.setCell ⟨x0, 5, none⟩ (.int .u8 a)).setCell ⟨x0 + 1, 5, none⟩ (.int .u8 b)) fp1 (x0 + 1) (bz 5 b) 5) := ⟨(LY.out.other 5 _ (by omega)).set 5 b⟩
  generalize (w2.setCell ⟨x0, 5, none⟩ (.int .u8 a)).setCell ⟨x0 + 1, 5, none⟩ (.int .u8 b) = w3 at C3 MX MY ⊢
  have HX : Box (Byt (bz 5 a) ∧ Byt (bz 5 b)) := ⟨byt_bz _ _ ha', byt_bz _ _ hb'⟩
  have HW1 : Box (∀ wx fp g, Cx wa wx D fp (dk0 1) → Loc wx fp g (bz 5 a) 5 → Calls Try.prog 18 #[.pointer (some ⟨D, 0, none⟩), .int .i64 0, .slice (some ⟨g, 0, none⟩) 192 192] wx fun e w' => e = .returned (.int .i64 0) ∧ ∃ fp', Cx wa w' D fp' (s1 (bz 5 a)) ∧ Fol wx fp w' fp') :=
    ⟨fun wx fp g C L => write_cx C 0 _ 192 _ (L.bytes HX.out.1 192 (length_bz _ _)) (fun ad e => by simp only [Option.some.injEq] at e; subst e; exact L.no) rfl (lt_rfl rfl) (fun h => by cases h) (left_rfl rfl) (lt_rfl rfl) (lt_rfl rfl)⟩
  have HW2 : Box (∀ wx fp g, Cx wa wx D fp (flOk (s1 (bz 5 a))) → Loc wx fp g (bz 5 b) 5 → Calls Try.prog 18 #[.pointer (some ⟨D, 0, none⟩), .int .i64 0, .slice (some ⟨g, 0, none⟩) 192 192] wx fun e w' => e = .returned (.int .i64 0) ∧ ∃ fp', Cx wa w' D fp' (s3 (bz 5 a) (bz 5 b)) ∧ Fol wx fp w' fp') :=
    ⟨fun wx fp g C L => write_cx C 0 _ 192 _ (L.bytes HX.out.2 192 (length_bz _ _)) (fun ad e => by simp only [Option.some.injEq] at e; subst e; exact L.no) rfl (lt_rfl rfl) (fun h => by cases h) (left_rfl rfl) (lt_rfl rfl) (lt_rfl rfl)⟩
  have HF1 : Box (∀ wx fp, Cx wa wx D fp (s1 (bz 5 a)) → Calls Try.prog 19 #[.pointer (some ⟨D, 0, none⟩)] wx fun e w' => e = .returned (.int .i64 0) ∧ ∃ fp', Cx wa w' D fp' (flOk (s1 (bz 5 a))) ∧ Fol wx fp w' fp') := ⟨fun wx fp C => flush_cx C rfl (lt_rfl rfl) (lt_rfl rfl)⟩
  have HF2 : Box (∀ wx fp, Cx wa wx D fp (s3 (bz 5 a) (bz 5 b)) → Calls Try.prog 19 #[.pointer (some ⟨D, 0, none⟩)] wx fun e w' => e = .returned (.int .i64 0) ∧ ∃ fp', Cx wa w' D fp' (s4 true (bz 5 a) (bz 5 b))) := ⟨fun wx fp C => (flush_cx C rfl (lt_rfl rfl) (lt_rfl rfl)).mono fun e w' ⟨h1, fp', h2, _⟩ => ⟨h1, fp', h2⟩⟩
  have HCr : Box (∀ wx fp g t, Cx wa wx D fp (s4 f (bz 5 a) (bz 5 b)) → wx.heap[g]? = some (.cells #[.bool k] t (0, 0)) → ¬ fp g → Calls Try.prog 20 #[.pointer (some ⟨D, 0, none⟩), .slice (some ⟨g, 0, none⟩) 1 1] wx fun e w' => e = .returned (.tuple #[]) ∧ ∃ fp', Cx wa w' D fp' (s5 f k (bz 5 a) (bz 5 b))) :=
    ⟨fun wx fp g t C hg hn => (crash_cx C _ 1 1 [k] (bools_one k hg) (fun ad e _ => by simp only [Option.some.injEq] at e; subst e; exact hn) (by cases f <;> exact lt_rfl rfl) (by decide)).mono fun e w' ⟨h1, fp', h2, _⟩ => ⟨h1, fp', h2⟩⟩
  have HRd : Box (∀ wx fp, Cx wa wx D fp (s5 f k (bz 5 a) (bz 5 b)) → Calls Try.prog 21 #[.pointer (some ⟨D, 0, none⟩), .int .i64 0] wx fun e w' => ∃ R, e = .returned (.tuple #[.slice (some ⟨R, 0, none⟩) 192 192, .int .i64 0]) ∧ Below wa.heap.size wa w' ∧ w'.cell? ⟨R, 5, none⟩ = some (.int .u8 (if f || k then b else a))) :=
    ⟨fun wx fp C => (read_cx C 0 rfl (by cases f <;> exact lt_rfl rfl) (by cases f <;> exact lt_rfl rfl) (by cases f <;> exact lt_rfl rfl)).mono fun e w' ⟨R, fp', h1, h2, h3, h4, h5, h6⟩ => ⟨R, h1, h2.bel, by
      rw [lat_s5] at h4 h6
      have := (row_cell0 h4 5 (by rw [h6.1]; omega)).1
      rw [this]
      cases f <;> cases k <;> simp [bz_at, -List.getD_eq_getElem?_getD]⟩⟩
  clear C2 LX LY cx fx cy fy HX ha hb ha' hb'
  cases f
  case false =>
    go_upto_region 16 with (first
    | (go_at_call 18; refine (HW2.out _ _ _ C5.out.1 C5.out.2).mono ?_; rintro e w6 ⟨rfl, fp6, hc6, hf6⟩; have C6 : Box (_ ∧ True) := ⟨hc6, trivial⟩; clear hc6 hf6 C5)
    | (go_at_call 19; refine (HF1.out _ _ C4.out.1).mono ?_; rintro e w5 ⟨rfl, fp5, hc5, hf5⟩; have C5 : Box (_ ∧ _) := ⟨hc5, C4.out.2.fol hf5⟩; clear hc5 hf5 C4)
    | (go_at_call 18; refine (HW1.out _ _ _ C3.out MX.out).mono ?_; rintro e w4 ⟨rfl, fp4, hc4, hf4⟩; have C4 : Box (_ ∧ _) := ⟨hc4, MY.out.fol hf4⟩; clear hc4 hf4 C3 MX MY))
    have C7 : Box (Cx wa w6 D fp6 (s4 false (bz 5 a) (bz 5 b))) := ⟨C6.out.1⟩
    clear HW1 HW2 HF1 HF2
    go_wp2_with (first
      | (go_at_call 21; refine (HRd.out _ _ C8.out).mono ?_; rintro e w9 ⟨R, rfl, hb9, c9⟩; have B9 : Box _ := ⟨hb9⟩; clear hb9 C8)
      | (go_at_call 20; refine (HCr.out _ _ _ _ (C7.out.step ((Below.refl _ _).alloc (Nat.le_refl _) _)) (al_at rfl) (fun h => by have := C7.out.hi _ h; omega)).mono ?_; rintro e w8 ⟨rfl, fp8, hc8⟩; have C8 : Box _ := ⟨hc8⟩; clear hc8 C7))
    all_goals (go_ret; exact ⟨rfl, BA.out.trans (B9.out.mono BA.out.size)⟩)
  case true =>
    go_upto_region 16 with (first
    | (go_at_call 19; refine (HF2.out _ _ C6.out.1).mono ?_; rintro e w7 ⟨rfl, fp7, hc7⟩; have C7 : Box _ := ⟨hc7⟩; clear hc7 C6)
    | (go_at_call 18; refine (HW2.out _ _ _ C5.out.1 C5.out.2).mono ?_; rintro e w6 ⟨rfl, fp6, hc6, hf6⟩; have C6 : Box (_ ∧ True) := ⟨hc6, trivial⟩; clear hc6 hf6 C5)
    | (go_at_call 19; refine (HF1.out _ _ C4.out.1).mono ?_; rintro e w5 ⟨rfl, fp5, hc5, hf5⟩; have C5 : Box (_ ∧ _) := ⟨hc5, C4.out.2.fol hf5⟩; clear hc5 hf5 C4)
    | (go_at_call 18; refine (HW1.out _ _ _ C3.out MX.out).mono ?_; rintro e w4 ⟨rfl, fp4, hc4, hf4⟩; have C4 : Box (_ ∧ _) := ⟨hc4, MY.out.fol hf4⟩; clear hc4 hf4 C3 MX MY))
    clear HW1 HW2 HF1 HF2
    go_wp2_with (first
      | (go_at_call 21; refine (HRd.out _ _ C8.out).mono ?_; rintro e w9 ⟨R, rfl, hb9, c9⟩; have B9 : Box _ := ⟨hb9⟩; clear hb9 C8)
      | (go_at_call 20; refine (HCr.out _ _ _ _ (C7.out.step ((Below.refl _ _).alloc (Nat.le_refl _) _)) (al_at rfl) (fun h => by have := C7.out.hi _ h; omega)).mono ?_; rintro e w8 ⟨rfl, fp8, hc8⟩; have C8 : Box _ := ⟨hc8⟩; clear hc8 C7))
    all_goals (go_ret; exact ⟨rfl, BA.out.trans (B9.out.mono BA.out.size)⟩)
end Go.Proofs.Ytlokhbkjkobmaaa
