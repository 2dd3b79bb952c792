/-
  What is read of a disk behind writes, a flush and a crash; the document's example of layer 6.
-/
import Derived.Test.YtlokhbkjkobmaaaZC
namespace Go.Proofs.Ytlokhbkjkobmaaa
set_option linter.unusedVariables false
open Go.RowKit Plain

theorem lastOf_snoc (L : List (Nat × List Int)) (x : Nat × List Int) (j : Nat) : lastOf (L ++ [x]) j = if x.1 = j then some x.2 else lastOf L j := by
  unfold lastOf
  rw [List.reverse_append]
  simp only [List.reverse_cons, List.reverse_nil, List.nil_append, List.cons_append, List.find?_cons]
  by_cases h : x.1 = j
  · simp [h]
  · have : (x.1 == j) = false := by simpa using h
    simp [this, h]
theorem snoc_ind {α : Type} {p : List α → Prop} (L : List α) (nil : p []) (snoc : ∀ L x, p L → p (L ++ [x])) : p L := by
  have : ∀ R : List α, p R.reverse := fun R => by
    induction R with
    | nil => exact nil
    | cons x R ih => rw [List.reverse_cons]; exact snoc _ _ ih
  have h := this L.reverse
  rwa [List.reverse_reverse] at h
theorem lay_get (L : List (Nat × List Int)) (pl : Nat → List Int) (j : Nat) : lay L pl j = (lastOf L j).getD (pl j) := by
  refine snoc_ind (p := fun L => lay L pl j = (lastOf L j).getD (pl j)) L rfl (fun L x ih => ?_)
  show lay (L ++ [x]) pl j = (lastOf (L ++ [x]) j).getD (pl j)
  rw [lay_snoc, lastOf_snoc, upd]
  by_cases h : j = x.1
  · rw [if_pos h, if_pos h.symm]; rfl
  · rw [if_neg h, if_neg (Ne.symm h)]; exact ih
theorem lat_wr (d : Dk) (i j : Nat) (B : List Int) : lat (wrOk d i B) j = if i = j then B else lat d j := by
  unfold lat
  rw [show (wrOk d i B).uw = d.uw ++ [(i, B)] from rfl, lastOf_snoc]
  split <;> rfl
theorem lat_rd (d : Dk) (i : Int) (j : Nat) : lat (rdOk d i) j = lat d j := rfl
theorem lat_fl (d : Dk) (j : Nat) : lat (flOk d) j = lat d j := by
  have : lat (flOk d) j = lay d.uw d.pl j := rfl
  rw [this, lay_get]
  rfl
theorem lat_cr (d : Dk) (K : List Bool) (j : Nat) : lat (crOk d K) j = lay (kp d.uw K) d.pl j := rfl
theorem kp_nil (L : List (Nat × List Int)) : kp L [] = [] := by
  unfold kp
  rw [List.map_eq_nil_iff, List.filter_eq_nil_iff]
  intro x _
  simp
theorem getD_set0 (B : List Int) (z : Int) (h : 0 < B.length) : (B.set 0 z).getD 0 0 = z := by
  cases B with
  | nil => simp at h
  | cons b B => rfl
/-- The bytes that the example writes, and its disk behind each call. -/
def b7 : List Int := z192.set 0 7
theorem length_b7 : b7.length = 192 := by rw [b7, List.length_set, length_z192]
theorem byt_b7 : Byt b7 := byt_set _ _ _ byt_z192 (by omega)
theorem b7_at : b7.getD 0 0 = 7 := getD_set0 _ _ (by rw [length_z192]; omega)
def a1 : Dk := wrOk (dk0 2) 1 b7
def a2 : Dk := rdOk a1 1
def a3 : Dk := crOk a2 []
def a4 : Dk := rdOk a3 1
theorem lat_a1 : lat a1 1 = b7 := lat_wr _ _ _ _
theorem lat_a3 : lat a3 1 = z192 := by
  rw [a3, lat_cr, kp_nil]
  rfl
theorem row_cell0 {w : World} {fp : Nat → Prop} {g : Nat} {B : List Int} {t : TypeId} (h : Loc w fp g B t) (i : Nat) (hi : i < B.length) : w.cell? ⟨g, i, none⟩ = some (.int .u8 (B.getD i 0)) ∧ w.frozen? ⟨g, i, none⟩ = false :=
  ⟨row_cell w g i B t _ h.row hi, frozen_of_row w g i _ t h.row⟩
set_option maxRecDepth 20000 in
set_option maxHeartbeats 4000000 in
theorem awake_any (w : World) : Calls Try.prog 9 #[] w fun e w' => e = .returned (.bool true) ∧ Below w.heap.size w w' := by
  have HN : Box (Calls Try.prog 10 #[.int .i64 2] w fun e w' => e = .returned (.tuple #[.pointer (some ⟨w.heap.size + 1, 0, none⟩), .int .i64 0]) ∧ ∃ fp, Cx w w' (w.heap.size + 1) fp (dk0 2)) := ⟨new_cx w 2 (by omega)⟩
  obtain ⟨D, HD⟩ : ∃ D, Box (w.heap.size + 1 = D) := ⟨_, ⟨rfl⟩⟩
  rw [HD.out] at HN
  clear HD
  have HWr : Box (∀ wx fp g, Cx w wx D fp (dk0 2) → Loc wx fp g b7 5 → Calls Try.prog 18 #[.pointer (some ⟨D, 0, none⟩), .int .i64 1, .slice (some ⟨g, 0, none⟩) 192 192] wx fun e w' => e = .returned (.int .i64 0) ∧ ∃ fp', Cx w w' D fp' a1 ∧ Fol wx fp w' fp') :=
    ⟨fun wx fp g C L => write_cx C 1 _ 192 b7 (L.bytes byt_b7 192 length_b7) (fun ad e => by simp only [Option.some.injEq] at e; subst e; exact L.no) rfl (by decide) (fun h => by cases h) (by decide) (by decide) (by decide)⟩
  have HR1 : Box (∀ wx fp, Cx w wx D fp a1 → Calls Try.prog 21 #[.pointer (some ⟨D, 0, none⟩), .int .i64 1] wx fun e w' => ∃ R fp', e = .returned (.tuple #[.slice (some ⟨R, 0, none⟩) 192 192, .int .i64 0]) ∧ Cx w w' D fp' a2 ∧ Loc w' fp' R b7 79) :=
    ⟨fun wx fp C => (read_cx C 1 rfl (by decide) (by decide) (by decide)).mono fun e w' ⟨R, fp', h1, h2, h3, h4, _⟩ => ⟨R, fp', h1, h2, by rw [lat_a1] at h4; exact h4⟩⟩
  have HPe : Box (∀ wx fp, Cx w wx D fp a2 → Calls Try.prog 26 #[.pointer (some ⟨D, 0, none⟩)] wx fun e w' => e = .returned (.int .i64 1) ∧ wx = w') := ⟨fun wx fp C => pending_cx C⟩
  have HCr : Box (∀ wx fp, Cx w wx D fp a2 → Calls Try.prog 20 #[.pointer (some ⟨D, 0, none⟩), .slice none 0 0] wx fun e w' => e = .returned (.tuple #[]) ∧ ∃ fp', Cx w w' D fp' a3 ∧ Fol wx fp w' fp') :=
    ⟨fun wx fp C => crash_cx C none 0 0 [] (bools_none wx) (fun ad e _ => by cases e) (by decide) (by decide)⟩
  have HR2 : Box (∀ wx fp, Cx w wx D fp a3 → Calls Try.prog 21 #[.pointer (some ⟨D, 0, none⟩), .int .i64 1] wx fun e w' => ∃ R fp', e = .returned (.tuple #[.slice (some ⟨R, 0, none⟩) 192 192, .int .i64 0]) ∧ Cx w w' D fp' a4 ∧ Fol wx fp w' fp' ∧ Loc w' fp' R z192 79) :=
    ⟨fun wx fp C => (read_cx C 1 rfl (by decide) (by decide) (by decide)).mono fun e w' ⟨R, fp', h1, h2, h3, h4, _⟩ => ⟨R, fp', h1, h2, h3, by rw [lat_a3] at h4; exact h4⟩⟩
  have HSz : Box (∀ wx fp, Cx w wx D fp a4 → Calls Try.prog 25 #[.pointer (some ⟨D, 0, none⟩)] wx fun e w' => e = .returned (.int .i64 2) ∧ wx = w') := ⟨fun wx fp C => size_cx C⟩
  have HOp : Box (∀ wx fp, Cx w wx D fp a4 → Calls Try.prog 27 #[.pointer (some ⟨D, 0, none⟩)] wx fun e w' => ∃ a c, e = .returned (.slice a 3 c) ∧ Below wx.heap.size wx w') :=
    ⟨fun wx fp C => (ops_cx C (by decide)).mono fun e w' ⟨v', h1, h2, h3, _⟩ => by obtain ⟨a, c, rfl⟩ := own_form2 h2; exact ⟨a, c, h1, h3⟩⟩
  go_enter Try.func9, Try.ntmps9
  go_upto_region 5 with (first
    | (go_at_call 10; refine HN.out.mono ?_; rintro e w1 ⟨rfl, fp1, hc1⟩; have C1 : Box _ := ⟨hc1⟩; clear hc1)
    | (refine wpList_run rfl _ _ (exec_make192 _ _ rfl rfl rfl) ?_))
  have C2 : Box (Cx w (w1.alloc (.cells (u8s z192) 5)) D fp1 (dk0 2) ∧ w.heap.size ≤ w1.heap.size) := ⟨C1.out.step ((Below.refl _ _).alloc (Nat.le_refl _) _), C1.out.bel.size⟩
  have L2 : Box (Loc (w1.alloc (.cells (u8s z192) 5)) fp1 w1.heap.size z192 5) := ⟨Loc.new C1.out.hi z192 5⟩
  generalize w1.alloc (.cells (u8s z192) 5) = w2 at C2 L2 ⊢
  generalize w1.heap.size = x0 at C2 L2 ⊢
  obtain ⟨c0, f0⟩ := row_cell0 L2.out 0 (by rw [length_z192]; omega)
  clear C1 HN
  go_upto_region 6 with fail
  have C3 : Box (Cx w (w2.setCell ⟨x0, 0, none⟩ (.int .u8 7)) D fp1 (dk0 2)) := ⟨C2.out.1.set x0 0 _ L2.out.no C2.out.2⟩
  have L3 : Box (Loc (w2.setCell ⟨x0, 0, none⟩ (.int .u8 7)) fp1 x0 b7 5) := ⟨L2.out.set 0 7⟩
  generalize w2.setCell ⟨x0, 0, none⟩ (.int .u8 7) = w3 at C3 L3 ⊢
  clear C2 L2 c0 f0
  go_upto_region 11 with (first
    | (go_at_call 21; refine (HR2.out _ _ C6.out).mono ?_; rintro e w7 ⟨R2, fp7, rfl, hc7, hf7, hl7⟩; have C7 : Box _ := ⟨hc7⟩; have L7 : Box _ := ⟨L6.out.fol hf7⟩; have M7 : Box _ := ⟨hl7⟩; clear hc7 hf7 hl7)
    | (go_at_call 20; refine (HCr.out _ _ C5.out).mono ?_; rintro e w6 ⟨rfl, fp6, hc6, hf6⟩; have C6 : Box _ := ⟨hc6⟩; have L6 : Box _ := ⟨L5.out.fol hf6⟩; clear hc6 hf6)
    | (go_at_call 26; refine (HPe.out _ _ C5.out).mono ?_; rintro e w' ⟨rfl, rfl⟩)
    | (go_at_call 21; refine (HR1.out _ _ C4.out).mono ?_; rintro e w5 ⟨R1, fp5, rfl, hc5, hl5⟩; have C5 : Box _ := ⟨hc5⟩; have L5 : Box _ := ⟨hl5⟩; clear hc5 hl5)
    | (go_at_call 18; refine (HWr.out _ _ _ C3.out L3.out).mono ?_; rintro e w4 ⟨rfl, fp4, hc4, hf4⟩; have C4 : Box _ := ⟨hc4⟩; clear hc4 hf4))
  obtain ⟨e0, -⟩ := row_cell0 L7.out 0 (by rw [length_b7]; omega)
  obtain ⟨e1, -⟩ := row_cell0 M7.out 0 (by rw [length_z192]; omega)
  rw [b7_at] at e0
  rw [getD_z192] at e1
  clear L7 M7 L6 L5 L3 C3 C4 C5 C6 HR1 HR2 HCr HPe HWr
  go_wp2_with (first
    | (go_at_call 27; refine (HOp.out _ _ C7.out).mono ?_; rintro e w8 ⟨oa, oc', rfl, hb8⟩; have B8 : Box _ := ⟨hb8⟩; clear hb8)
    | (go_at_call 25; refine (HSz.out _ _ C7.out).mono ?_; rintro e w' ⟨rfl, rfl⟩))
  go_ret
  exact ⟨rfl, below_to C7.out.bel B8.out⟩
end Go.Proofs.Ytlokhbkjkobmaaa
