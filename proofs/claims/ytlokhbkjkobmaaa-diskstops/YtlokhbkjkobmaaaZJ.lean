/-
  The walk of DiskStops, for every byte and every row of bytes.
-/
import Derived.Test.YtlokhbkjkobmaaaZI
namespace Go.Proofs.Ytlokhbkjkobmaaa
set_option linter.unusedVariables false
open Go.RowKit Plain

set_option maxRecDepth 20000 in
set_option maxHeartbeats 1000000 in
theorem tamper_none (w : World) (i : Int) (a : Option Addr) (len cap : Nat) : Calls Try.prog 24 #[.pointer none, .int .i64 i, .slice a len cap] w fun e w' => e = .returned (.int .i64 1) ∧ Below w.heap.size w w' := by
  go_enter Try.func24, Try.ntmps24
  go_wp2
  go_ret
  exact ⟨rfl, (Below.refl _ _).alloc (Nat.le_refl _) _⟩
set_option maxRecDepth 20000 in
set_option maxHeartbeats 1000000 in
theorem restore_none (w : World) (a : Option Addr) (len cap : Nat) : Calls Try.prog 16 #[.pointer none, .slice a len cap] w fun e w' => e = .returned (.int .i64 1) ∧ w = w' := by
  go_enter Try.func16, Try.ntmps16
  go_wp2
  go_ret
  exact ⟨rfl, rfl⟩
/-- The disk behind so many of k writes. -/
def gd (X : List Int) (k i : Nat) : Dk := { dk0 2 with st := true, left := (k : Int) - (i : Int), uw := (List.range i).map (fun j => (j % 2, X)), ops := (List.range i).map (fun j => (2, ((j % 2 : Nat) : Int))) }
theorem gd_zero (X : List Int) (k : Nat) : ({ dk0 2 with st := decide (0 ≤ (k : Int)), left := max (k : Int) 0 } : Dk) = gd X k 0 := by
  simp only [gd, List.range_zero, List.map_nil, dk0]
  congr 1
  all_goals first | (simp; done) | omega
theorem gd_succ (X : List Int) (k i : Nat) : wrOk (gd X k i) (i % 2) X = gd X k (i + 1) := by
  simp only [wrOk, gd, List.range_succ, List.map_append, List.map_cons, List.map_nil, if_true]
  congr 1
  simp only [Int.natCast_add]
  omega
def gx (X : List Int) (k : Nat) : Dk := { gd X k k with down := true }
def gc (X : List Int) (k : Nat) : Dk := crOk (gx X k) []
def gr (X : List Int) (k : Nat) : Dk := rdOk (gc X k) 0
set_option maxRecDepth 20000 in
set_option maxHeartbeats 2000000 in
theorem stops_at (n : Int) (k : Nat) (a : Option Addr) (len cap : Nat) (B : List Int) (w : World) (hn : 0 ≤ n ∧ n ≤ 255) (hk : n % 20 = (k : Int)) (hB : Bytes w a len B) (hlen : len ≤ maxLen) :
    Calls Try.prog 6 #[.int .u8 n, .slice a len cap] w fun e w' => e = .returned (.bool true) ∧ Below w.heap.size w w' := by
  have HAw : Box _ := ⟨awake_any w⟩
  have HN : Box (∀ wx, Calls Try.prog 10 #[.int .i64 2] wx fun e w' => ∃ D, e = .returned (.tuple #[.pointer (some ⟨D, 0, none⟩), .int .i64 0]) ∧ ∃ fp, Cx wx w' D fp (dk0 2)) := ⟨fun wx => (new_cx wx 2 (by omega)).mono fun e w' h => ⟨_, h⟩⟩
  have HBy : Box (Byt B) := ⟨hB.2.1⟩
  have HFu : Box (∀ wx wy, Below w.heap.size w wx → Below wx.heap.size wx wy → Calls Try.prog 22 #[.agg #[.int .i64 0, .int .i64 0, .slice a len cap, .slice none 0 0, .bool false]] wy fun e w' => ∃ g, e = .returned (.slice (some ⟨g, 0, none⟩) 192 192) ∧ wy.heap.size ≤ g ∧ w'.heap[g]? = some (.cells (u8s (fullB 192 B)) 5 (0, 0)) ∧ Below wy.heap.size wy w') := ⟨fun wx wy h1 h2 => full_any wy 0 0 a len cap (.slice none 0 0) rfl false B ((hB.below h1).below h2) hlen⟩
  have hk20 : k < 20 := by omega
  have hmod : IntKind.u8.wrap (n % 20) = (k : Int) := by rw [hk, IntKind.wrap_u8]; omega
  go_enter Try.func6, Try.ntmps6
  go_upto_region 7 with (first
    | (go_at_call 10; refine (HN.out _).mono ?_; rintro e w1 ⟨D, rfl, fp1, hc1⟩; have C1 : Box _ := ⟨hc1⟩; clear hc1)
    | (go_at_call 9; refine HAw.out.mono ?_; rintro e wa ⟨rfl, hba⟩; have BA : Box _ := ⟨hba⟩; clear hba))
  go_upto_region 8 with fail
  have HX : Box (Byt (fullB 192 B)) := ⟨byt_fullB _ _ HBy.out⟩
  have HSt : Box (∀ wx fp, Cx wa wx D fp (dk0 2) → Calls Try.prog 23 #[.pointer (some ⟨D, 0, none⟩), .int .i64 (k : Int)] wx fun e w' => e = .returned (.tuple #[]) ∧ ∃ fp', Cx wa w' D fp' (gd (fullB 192 B) k 0) ∧ Fol wx fp w' fp') := ⟨fun wx fp C => by
    have h := stop_cx C (k : Int)
    rw [gd_zero (fullB 192 B) k] at h
    exact h⟩
  have HWr : Box (∀ i wx fp g, i < k → Cx wa wx D fp (gd (fullB 192 B) k i) → Loc wx fp g (fullB 192 B) 5 → Calls Try.prog 18 #[.pointer (some ⟨D, 0, none⟩), .int .i64 ((i % 2 : Nat) : Int), .slice (some ⟨g, 0, none⟩) 192 192] wx fun e w' => e = .returned (.int .i64 0) ∧ ∃ fp', Cx wa w' D fp' (gd (fullB 192 B) k (i + 1)) ∧ Fol wx fp w' fp') :=
    ⟨fun i wx fp g hi C L => by
      have h := write_cx C (i % 2) _ 192 _ (L.bytes HX.out 192 (length_fullB _ _)) (fun ad e => by simp only [Option.some.injEq] at e; subst e; exact L.no) rfl (by show i % 2 < 2; omega) (fun _ => by show (k : Int) - i ≠ 0; omega) (by show 0 ≤ (k : Int) - i ∧ (k : Int) - i ≤ _; omega) (by simp [gd]; omega) (by simp [gd]; omega)
      rw [gd_succ] at h
      exact h⟩
  have HWs : Box (∀ wx fp g, Cx wa wx D fp (gd (fullB 192 B) k k) → Loc wx fp g (fullB 192 B) 5 → Calls Try.prog 18 #[.pointer (some ⟨D, 0, none⟩), .int .i64 0, .slice (some ⟨g, 0, none⟩) 192 192] wx fun e w' => e = .returned (.int .i64 13) ∧ ∃ fp', Cx wa w' D fp' (gx (fullB 192 B) k) ∧ Loc w' fp' g (fullB 192 B) 5) :=
    ⟨fun wx fp g C L => (write_stop wx D fp _ C.is 0 _ 192 192 rfl rfl rfl (by show (k : Int) - k = 0; omega)).mono fun e w' ⟨h1, h2⟩ => by
      obtain ⟨fp', h3, h4⟩ := C.nx h2
      exact ⟨h1, fp', h3, L.fol h4⟩⟩
  have HRd : Box (∀ wx fp, Cx wa wx D fp (gx (fullB 192 B) k) → Calls Try.prog 21 #[.pointer (some ⟨D, 0, none⟩), .int .i64 0] wx fun e w' => e = .returned (.tuple #[.slice none 0 0, .int .i64 13]) ∧ wx = w') := ⟨fun wx fp C => read_down wx D fp _ C.is 0 rfl⟩
  have HFd : Box (∀ wx fp, Cx wa wx D fp (gx (fullB 192 B) k) → Calls Try.prog 19 #[.pointer (some ⟨D, 0, none⟩)] wx fun e w' => e = .returned (.int .i64 13) ∧ wx = w') := ⟨fun wx fp C => flush_down wx D fp _ C.is rfl⟩
  have HCr : Box (∀ wx fp, Cx wa wx D fp (gx (fullB 192 B) k) → Calls Try.prog 20 #[.pointer (some ⟨D, 0, none⟩), .slice none 0 0] wx fun e w' => e = .returned (.tuple #[]) ∧ ∃ fp', Cx wa w' D fp' (gc (fullB 192 B) k) ∧ Fol wx fp w' fp') :=
    ⟨fun wx fp C => crash_cx C none 0 0 [] (bools_none wx) (fun ad e _ => by cases e) (by simp [gx, gd]; omega) (by decide)⟩
  have HRo : Box (∀ wx fp, Cx wa wx D fp (gc (fullB 192 B) k) → Calls Try.prog 21 #[.pointer (some ⟨D, 0, none⟩), .int .i64 0] wx fun e w' => ∃ R fp', e = .returned (.tuple #[.slice (some ⟨R, 0, none⟩) 192 192, .int .i64 0]) ∧ Cx wa w' D fp' (gr (fullB 192 B) k) ∧ Fol wx fp w' fp') :=
    ⟨fun wx fp C => (read_cx C 0 rfl (lt_rfl rfl) (by simp [gc, crOk, gx, gd]; omega) (lt_rfl rfl)).mono fun e w' ⟨R, fp', h1, h2, h3, _⟩ => ⟨R, fp', h1, h2, h3⟩⟩
  have HWo : Box (∀ wx fp g, Cx wa wx D fp (gr (fullB 192 B) k) → Loc wx fp g (fullB 192 B) 5 → Calls Try.prog 18 #[.pointer (some ⟨D, 0, none⟩), .int .i64 1, .slice (some ⟨g, 0, none⟩) 192 192] wx fun e w' => e = .returned (.int .i64 0) ∧ Below wa.heap.size wa w') :=
    ⟨fun wx fp g C L => (write_cx C 1 _ 192 _ (L.bytes HX.out 192 (length_fullB _ _)) (fun ad e => by simp only [Option.some.injEq] at e; subst e; exact L.no) rfl (lt_rfl rfl) (fun h => by cases h) (left_rfl rfl) (by simp [gr, gc, rdOk, crOk, gx, gd]; omega) (lt_rfl rfl)).mono fun e w' ⟨h1, fp', h2, _⟩ => ⟨h1, h2.bel⟩⟩
  clear HX HBy HN HAw hB hlen
  go_wp2_with (first
    | (go_at_call 23; refine (HSt.out _ _ H2.out.1).mono ?_; rintro e w3 ⟨rfl, fp3, hc3, hf3⟩; have H3 : Box (Cx wa w3 D fp3 (gd (fullB 192 B) k 0) ∧ Loc w3 fp3 g (fullB 192 B) 5) := ⟨hc3, H2.out.2.fol hf3⟩; clear hc3 hf3 H2)
    | (go_at_call 22; refine (HFu.out _ _ BA.out C1.out.bel).mono ?_; rintro e w2 ⟨g, rfl, hg1, hg2, hb2⟩; have H2 : Box (Cx wa w2 D fp1 (dk0 2) ∧ Loc w2 fp1 g (fullB 192 B) 5) := ⟨C1.out.step hb2, ⟨hg2, fun h => by have := C1.out.hi _ h; omega⟩⟩; clear hg1 hg2 hb2 C1))
  clear HSt HFu
  go_loopw [10] (fun j wr => ∃ i : Nat, i ≤ k ∧ j = .int .i64 i ∧ ∃ fp, Box (Cx wa wr D fp (gd (fullB 192 B) k i) ∧ Loc wr fp g (fullB 192 B) 5)) (fun j _ => k - (intOf j).toNat)
  case atStart => exact ⟨0, by omega, rfl, fp3, H3⟩
  case round =>
    clear H3
    obtain ⟨i, hi, rfl, fp, HI⟩ := hrel
    by_cases hlt : i < k
    · have hi2 : Int.tmod (i : Int) 2 = ((i % 2 : Nat) : Int) := by rw [Int.tmod_eq_emod_of_nonneg (by omega)]; rfl
      go_wp2_with (go_at_call 18; refine (HWr.out i _ _ _ hlt HI.out.1 HI.out.2).mono ?_; rintro e w4 ⟨rfl, fp4, hc4, hf4⟩; have H4 : Box (Cx wa w4 D fp4 (gd (fullB 192 B) k (i + 1)) ∧ Loc w4 fp4 g (fullB 192 B) 5) := ⟨hc4, HI.out.2.fol hf4⟩; clear hc4 hf4)
      exact ⟨⟨i + 1, by omega, by simp, fp4, H4⟩, by simp [intOf]; omega⟩
    · obtain rfl : i = k := by omega
      clear HWr
      go_upto_region 21 with (first
        | (go_at_call 21; refine (HRo.out _ _ H6.out.1).mono ?_; rintro e w7 ⟨R, fp7, rfl, hc7, hf7⟩; have H7 : Box (Cx wa w7 D fp7 (gr (fullB 192 B) i) ∧ Loc w7 fp7 g (fullB 192 B) 5) := ⟨hc7, H6.out.2.fol hf7⟩; clear hc7 hf7 H6)
        | (go_at_call 20; refine (HCr.out _ _ H5.out.1).mono ?_; rintro e w6 ⟨rfl, fp6, hc6, hf6⟩; have H6 : Box (Cx wa w6 D fp6 (gc (fullB 192 B) i) ∧ Loc w6 fp6 g (fullB 192 B) 5) := ⟨hc6, H5.out.2.fol hf6⟩; clear hc6 hf6 H5)
        | (go_at_call 19; refine (HFd.out _ _ H5.out.1).mono ?_; rintro e w' ⟨rfl, rfl⟩)
        | (go_at_call 21; refine (HRd.out _ _ H5.out.1).mono ?_; rintro e w' ⟨rfl, rfl⟩; clear HRd)
        | (go_at_call 18; refine (HWs.out _ _ _ HI.out.1 HI.out.2).mono ?_; rintro e w5 ⟨rfl, fp5, hc5, hl5⟩; have H5 : Box (Cx wa w5 D fp5 (gx (fullB 192 B) i) ∧ Loc w5 fp5 g (fullB 192 B) 5) := ⟨hc5, hl5⟩; clear hc5 hl5 HI))
      clear HCr HFd HRo HWs
      go_upto_region 24 with (first
        | (go_at_call 20; refine (crash_none _ _ _ _).mono ?_; rintro e w' ⟨rfl, rfl⟩)
        | (go_at_call 23; refine (stop_none _ _).mono ?_; rintro e w' ⟨rfl, rfl⟩)
        | (go_at_call 21; refine (read_none _ _).mono ?_; rintro e w' ⟨rfl, rfl⟩))
      go_wp2_with (first
        | (go_at_call 27; refine (ops_none _).mono ?_; rintro e w' ⟨rfl, rfl⟩)
        | (go_at_call 14; refine (image_none _).mono ?_; rintro e w' ⟨rfl, rfl⟩)
        | (go_at_call 26; refine (pending_none _).mono ?_; rintro e w' ⟨rfl, rfl⟩)
        | (go_at_call 25; refine (size_none _).mono ?_; rintro e w' ⟨rfl, rfl⟩)
        | (go_at_call 16; refine (restore_none _ _ _ _).mono ?_; rintro e w' ⟨rfl, rfl⟩)
        | (go_at_call 24; refine (tamper_none _ _ _ _ _).mono ?_; rintro e w9 ⟨rfl, hb9⟩; have B9 : Box _ := ⟨below_to B8.out hb9⟩; clear hb9)
        | (go_at_call 19; refine (flush_none _).mono ?_; rintro e w' ⟨rfl, rfl⟩)
        | (have h8 := B8.out; clear h8; go_at_call 18; refine (write_none _ _ _ _ _).mono ?_; rintro e w' ⟨rfl, rfl⟩)
        | (go_at_call 18; refine (HWo.out _ _ _ H7.out.1 H7.out.2).mono ?_; rintro e w8 ⟨rfl, hb8⟩; have B8 : Box (Below wa.heap.size wa w8) := ⟨hb8⟩; clear hb8 H7))
      go_ret
      exact ⟨rfl, BA.out.trans (B9.out.mono BA.out.size)⟩
theorem diskStops_walk (n : Int) (a : Option Addr) (len cap : Nat) (zA : List Int) (w : World) (hn : (Lit.int .u8 n).wf = true) (hA : IsRow .u8 w a len cap zA) :
    Calls Try.prog 6 #[.int .u8 n, .slice a len cap] w fun e w' => e = .returned (.bool true) ∧ Below w.heap.size w w' := by
  have b1 := u8_bd hn
  have mA := hA.pc
  exact stops_at n (n % 20).toNat a len cap _ w b1 (by omega) mA.1 hA.len
end Go.Proofs.Ytlokhbkjkobmaaa
