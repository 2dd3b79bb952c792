/-
  The walk of DiskSome: for every row of bytes and every row of truth values.
-/
import Derived.Test.YtlokhbkjkobmaaaZF
import Derived.Deep.QuietTactic
import Derived.BigQuiet
namespace Go.Proofs.Ytlokhbkjkobmaaa
set_option linter.unusedVariables false
open Go.RowKit Plain

theorem u8_and3 (x : Int) (h : 0 ≤ x ∧ x ≤ 255) : bits .and .u8 x 3 = x % 4 := by
  obtain ⟨X, rfl⟩ := Int.eq_ofNat_of_zero_le h.1
  have := u8_and_nat X 3 (by omega) (by omega)
  rw [show (3 : Nat) = 2 ^ 2 - 1 from rfl, Nat.and_two_pow_sub_one_eq_mod] at this
  exact_mod_cast this
/-- The place of write j, and its bytes. -/
def pk (S : List Int) (j : Nat) : Nat := (S.getD j 0 % 4).toNat
def pb (j : Nat) : List Int := fullB 192 [(j : Int) + 1]
/-- The writes so far. -/
def wl (S : List Int) (i : Nat) : List (Nat × List Int) := (List.range i).map (fun j => (pk S j, pb j))
theorem wl_succ (S : List Int) (i : Nat) : wl S (i + 1) = wl S i ++ [(pk S i, pb i)] := by simp [wl, List.range_succ]
theorem length_wl (S : List Int) (i : Nat) : (wl S i).length = i := by simp [wl]
theorem wl_take (S : List Int) (i n : Nat) (h : i ≤ n) : (wl S n).take i = wl S i := by
  rw [wl, ← List.map_take, List.take_range, Nat.min_eq_left h]
  rfl
/-- The disk behind so many writes. -/
def ds (S : List Int) (i : Nat) : Dk := { dk0 4 with uw := wl S i, ops := (List.range i).map (fun j => (2, (pk S j : Int))) }
theorem ds_zero (S : List Int) : ds S 0 = dk0 4 := rfl
theorem ds_succ (S : List Int) (i : Nat) : wrOk (ds S i) (pk S i) (pb i) = ds S (i + 1) := by
  simp only [wrOk, ds, wl_succ, List.range_succ, List.map_append, List.map_cons, List.map_nil, dk0]
  rfl
/-- What is wanted of a place, if so many writes were done, as they are kept. -/
def wnt (S : List Int) (K : List Bool) (i k : Nat) : Int := (lay (kp (wl S i) K) (fun _ => z192) k).getD 0 0
def wnts (S : List Int) (K : List Bool) (i : Nat) : List Int := [wnt S K i 0, wnt S K i 1, wnt S K i 2, wnt S K i 3]
theorem pk_lt (S : List Int) (j : Nat) : pk S j < 4 := by unfold pk; omega
theorem pb_at (j : Nat) : (pb j).getD 0 0 = (j : Int) + 1 := rfl
theorem kp_wl (S : List Int) (K : List Bool) (i : Nat) : kp (wl S (i + 1)) K = kp (wl S i) K ++ (if K.getD i false then [(pk S i, pb i)] else []) := by
  have h := kp_succ (wl S (i + 1)) K i (by rw [length_wl]; omega)
  rw [List.take_of_length_le (by rw [length_wl]; omega), wl_take S i (i + 1) (by omega)] at h
  rw [h]
  have e : (wl S (i + 1))[i]'(by rw [length_wl]; omega) = (pk S i, pb i) := by simp [wl]
  rw [e]
theorem wnts_no (S : List Int) (K : List Bool) (i : Nat) (h : K.getD i false = false) : wnts S K (i + 1) = wnts S K i := by
  unfold wnts wnt
  rw [kp_wl, h]
  simp
theorem wnt_yes (S : List Int) (K : List Bool) (i k : Nat) (h : K.getD i false = true) : wnt S K (i + 1) k = if k = pk S i then (i : Int) + 1 else wnt S K i k := by
  unfold wnt
  rw [kp_wl, if_pos h, lay_snoc, upd]
  simp only
  split
  · exact pb_at i
  · rfl
theorem wnts_yes (S : List Int) (K : List Bool) (i : Nat) (h : K.getD i false = true) : wnts S K (i + 1) = (wnts S K i).set (pk S i) ((i : Int) + 1) := by
  have h4 := pk_lt S i
  unfold wnts
  rw [wnt_yes S K i 0 h, wnt_yes S K i 1 h, wnt_yes S K i 2 h, wnt_yes S K i 3 h]
  generalize pk S i = p at h4
  have : p = 0 ∨ p = 1 ∨ p = 2 ∨ p = 3 := by omega
  rcases this with rfl | rfl | rfl | rfl <;> rfl
theorem wnts_zero (S : List Int) (K : List Bool) : wnts S K 0 = [0, 0, 0, 0] := by
  unfold wnts wnt
  have : ∀ k, (lay (kp (wl S 0) K) (fun _ => z192) k).getD 0 0 = 0 := fun k => getD_z192 0
  rw [this, this, this, this]
theorem wnts_at (S : List Int) (K : List Bool) (i k : Nat) (h : k < 4) : (wnts S K i).getD k 0 = wnt S K i k := by
  have : k = 0 ∨ k = 1 ∨ k = 2 ∨ k = 3 := by omega
  rcases this with rfl | rfl | rfl | rfl <;> rfl
theorem byt_pb (j : Nat) (h : j < 40) : Byt (pb j) := byt_fullB _ _ (byt_cons _ _ (by omega) byt_nil)
theorem bools_below {w w' : World} {a : Option Addr} {len : Nat} {K : List Bool} (h : Bools w a len K) (hb : Below w.heap.size w w') : Bools w' a len K := by
  refine ⟨h.1, fun h0 => ?_⟩
  obtain ⟨b, off, rfl, hlt, hc⟩ := h.2 h0
  exact ⟨b, off, rfl, Nat.lt_of_lt_of_le hlt hb.size, fun i hi => (hb.cell (p := ⟨b, off + i, none⟩) hlt).trans (hc i hi)⟩
/-- Where the statement stands. -/
structure Ss (wa wr : World) (D V : Nat) (fp : Nat → Prop) (d : Dk) (X : List Int) : Prop where
  c : Cx wa wr D fp d
  l : Loc wr fp V X 62
  v : wa.heap.size ≤ V
theorem Ss.fol {wa wr w' : World} {D V : Nat} {fp fp' : Nat → Prop} {d d' : Dk} {X : List Int} (h : Ss wa wr D V fp d X) (c : Cx wa w' D fp' d') (f : Fol wr fp w' fp') : Ss wa w' D V fp' d' X := ⟨c, h.l.fol f, h.v⟩
theorem Ss.step {wa wr w' : World} {D V : Nat} {fp : Nat → Prop} {d : Dk} {X : List Int} (h : Ss wa wr D V fp d X) (b : Below wr.heap.size wr w') : Ss wa w' D V fp d X := ⟨h.c.step b, h.l.below b, h.v⟩
theorem Ss.set {wa wr : World} {D V : Nat} {fp : Nat → Prop} {d : Dk} {X : List Int} (h : Ss wa wr D V fp d X) (i : Nat) (z : Int) : Ss wa (wr.setCell ⟨V, i, none⟩ (.int .u8 z)) D V fp d (X.set i z) := ⟨h.c.set V i _ h.l.no h.v, h.l.set i z, h.v⟩
/-- What the call of the bytes hands on. -/
theorem full_one (wx : World) (z : Int) (hz : 0 ≤ z ∧ z ≤ 255) : Calls Try.prog 22 #[.agg #[.int .i64 0, .int .i64 0, .slice (some ⟨wx.heap.size, 0, none⟩) 1 1, .slice none 0 0, .bool false]] (wx.alloc (.cells #[.int .u8 z] 5)) fun e w' => ∃ g, e = .returned (.slice (some ⟨g, 0, none⟩) 192 192) ∧ wx.heap.size ≤ g ∧ w'.heap[g]? = some (.cells (u8s (fullB 192 [z])) 5 (0, 0)) ∧ Below wx.heap.size wx w' := by
  refine (full_any _ 0 0 _ 1 1 (.slice none 0 0) rfl false [z] (bytes_of_row (X := [z]) (byt_cons _ _ hz byt_nil) (al_at rfl)) (by decide)).mono ?_
  rintro e w' ⟨g, rfl, h1, h2, h3⟩
  exact ⟨g, rfl, by simp at h1; omega, h2, (Below.refl _ wx).alloc (Nat.le_refl _) _ |>.trans (h3.mono (by simp))⟩
set_option maxRecDepth 20000 in
set_option maxHeartbeats 4000000 in
theorem some_in (a : Option Addr) (n ca : Nat) (S : List Int) (ka : Option Addr) (kl kc : Nat) (K : List Bool) (w : World) (hS : Bytes w a n S) (hn : n ≤ 40) (hK : Bools w ka kl K) (hkl : kl ≤ maxLen) :
    Calls Try.prog 8 #[.slice a n ca, .slice ka kl kc] w fun e w' => e = .returned (.bool true) ∧ Below w.heap.size w w' := by
  have HAw : Box _ := ⟨awake_any w⟩
  have HN : Box (∀ wx, Calls Try.prog 10 #[.int .i64 4] wx fun e w' => ∃ D, e = .returned (.tuple #[.pointer (some ⟨D, 0, none⟩), .int .i64 0]) ∧ ∃ fp, Cx wx w' D fp (dk0 4)) := ⟨fun wx => (new_cx wx 4 (by omega)).mono fun e w' h => ⟨_, h⟩⟩
  have h40 : decide (40 < (n : Int)) = false := by simp; omega
  have HS : Box (Bytes w a n S) := ⟨hS⟩
  have HK : Box (Bools w ka kl K ∧ kl ≤ maxLen) := ⟨hK, hkl⟩
  clear hS hK hkl
  go_enter Try.func8, Try.ntmps8
  go_wp2_with (first
    | (go_at_call 10; refine (HN.out _).mono ?_; rintro e w1 ⟨D, rfl, fp1, hc1⟩; have C1 : Box _ := ⟨hc1⟩; clear hc1)
    | (go_at_call 9; refine HAw.out.mono ?_; rintro e wa ⟨rfl, hba⟩; have BA : Box _ := ⟨hba⟩; clear hba))
  have S0 : Box (Ss wa (w1.alloc (.cells (u8s [0, 0, 0, 0]) 62)) D w1.heap.size fp1 (ds S 0) (wnts S K 0)) := ⟨⟨C1.out.step ((Below.refl _ _).alloc (Nat.le_refl _) _), by rw [wnts_zero]; exact Loc.new C1.out.hi _ _, C1.out.bel.size⟩⟩
  rw [show u8s [0, 0, 0, 0] = #[.int .u8 0, .int .u8 0, .int .u8 0, .int .u8 0] from rfl] at S0
  generalize w1.alloc (.cells #[.int .u8 0, .int .u8 0, .int .u8 0, .int .u8 0] 62) = w2 at S0 ⊢
  generalize w1.heap.size = V at S0 ⊢
  have HSw : Box (∀ wx, Below wa.heap.size wa wx → Bytes wx a n S) := ⟨fun wx hb => (HS.out.below BA.out).below (hb.mono (Nat.le_refl _))⟩
  have HKw : Box (∀ wx, Below wa.heap.size wa wx → Bools wx ka kl K) := ⟨fun wx hb => bools_below (bools_below HK.out.1 BA.out) hb⟩
  have HKn : Box (∀ ad, ka = some ad → 0 < kl → ad.block < wa.heap.size) := ⟨fun ad e h0 => by
    obtain ⟨b, off, rfl, hb, _⟩ := HK.out.1.2 h0
    simp only [Option.some.injEq] at e
    subst e
    exact Nat.lt_of_lt_of_le hb BA.out.size⟩
  have HSn : Box (∀ j, 0 ≤ S.getD j 0 ∧ S.getD j 0 ≤ 255) := ⟨HS.out.2.1⟩
  have HWr : Box (∀ i wx fp g, i < 40 → Cx wa wx D fp (ds S i) → Loc wx fp g (pb i) 5 → Calls Try.prog 18 #[.pointer (some ⟨D, 0, none⟩), .int .i64 (S.getD i 0 % 4), .slice (some ⟨g, 0, none⟩) 192 192] wx fun e w' => e = .returned (.int .i64 0) ∧ ∃ fp', Cx wa w' D fp' (ds S (i + 1)) ∧ Fol wx fp w' fp') :=
    ⟨fun i wx fp g hi C L => by
      have h := write_cx C (pk S i) _ 192 (pb i) (L.bytes (byt_pb i hi) 192 (length_fullB _ _)) (fun ad e => by simp only [Option.some.injEq] at e; subst e; exact L.no) rfl (pk_lt S i) (fun h => by cases h) (left_rfl rfl) (by simp [ds]; omega) (by simp [ds, length_wl]; omega)
      rw [ds_succ, show ((pk S i : Nat) : Int) = S.getD i 0 % 4 by unfold pk; omega] at h
      exact h⟩
  have hkl2 : kl < 9223372036854775808 := by have := HK.out.2; unfold maxLen at this; omega
  clear C1 HN HAw
  go_loopw [9] (fun j wr => ∃ i : Nat, i ≤ n ∧ j = .int .i64 i ∧ ∃ fp, Box (Ss wa wr D V fp (ds S i) (wnts S K i))) (fun j _ => n - (intOf j).toNat)
  case atStart => exact ⟨0, by omega, rfl, fp1, S0⟩
  case round =>
    clear S0
    obtain ⟨i, hi, rfl, fp, HI⟩ := hrel
    by_cases hlt : i < n
    · obtain ⟨bb, off, ea, hbb, hc⟩ := (HSw.out _ HI.out.c.bel).2.2 (by omega)
      have cS := hc i hlt
      have hz := HSn.out i
      have hand := u8_and3 (S.getD i 0) hz
      have hcv : IntKind.i64.wrap (S.getD i 0 % 4) = S.getD i 0 % 4 := by rw [IntKind.wrap_i64]; omega
      have hcv2 : IntKind.u8.wrap ((i : Int) + 1) = (i : Int) + 1 := by rw [IntKind.wrap_u8]; omega
      have HFu : Box (∀ wx, Calls Try.prog 22 #[.agg #[.int .i64 0, .int .i64 0, .slice (some ⟨wx.heap.size, 0, none⟩) 1 1, .slice none 0 0, .bool false]] (wx.alloc (.cells #[.int .u8 ((i : Int) + 1)] 5)) fun e w' => ∃ g, e = .returned (.slice (some ⟨g, 0, none⟩) 192 192) ∧ wx.heap.size ≤ g ∧ w'.heap[g]? = some (.cells (u8s (pb i)) 5 (0, 0)) ∧ Below wx.heap.size wx w') := ⟨fun wx => full_one wx _ (by omega)⟩
      have HWi : Box (∀ wx fp g, Cx wa wx D fp (ds S i) → Loc wx fp g (pb i) 5 → Calls Try.prog 18 #[.pointer (some ⟨D, 0, none⟩), .int .i64 (S.getD i 0 % 4), .slice (some ⟨g, 0, none⟩) 192 192] wx fun e w' => e = .returned (.int .i64 0) ∧ ∃ fp', Cx wa w' D fp' (ds S (i + 1)) ∧ Fol wx fp w' fp') := ⟨fun wx fp g => HWr.out i wx fp g (by omega)⟩
      have HPk : Box (S.getD i 0 % 4 = ((pk S i : Nat) : Int)) := ⟨by unfold pk; omega⟩
      subst ea
      generalize S.getD i 0 = s at cS hz hand hcv HWi HPk
      clear hc hbb
      go_upto_region 16 with (first
        | (go_at_call 18; refine (HWi.out _ _ _ H3.out.1.c H3.out.2).mono ?_; rintro e w4 ⟨rfl, fp4, hc4, hf4⟩; have H4 : Box _ := ⟨H3.out.1.fol hc4 hf4⟩; clear hc4 hf4 H3)
        | (go_at_call 22; refine (HFu.out _).mono ?_; rintro e w3 ⟨g, rfl, hg1, hg2, hb3⟩; have H3 : Box (Ss wa w3 D V fp (ds S i) (wnts S K i) ∧ Loc w3 fp g (pb i) 5) := ⟨HI.out.step hb3, ⟨hg2, fun h => by have := HI.out.c.hi _ h; omega⟩⟩; clear hg1 hg2 hb3))
      clear HI HFu HWi HWr cS hand
      have HK4 := HKw.out _ H4.out.c.bel
      rw [HPk.out]
      have hp4 := pk_lt S i
      by_cases hk : i < kl
      · obtain ⟨kb, ko, ek, hkb, hkc⟩ := HK4.2 (by omega)
        have ck := hkc i hk
        clear hkb hkc HK4
        subst ek
        cases hKi : K.getD i false
        case false =>
          rw [hKi] at ck
          have H5 : Box (Ss wa w4 D V fp4 (ds S (i + 1)) (wnts S K (i + 1))) := ⟨by rw [wnts_no S K i hKi]; exact H4.out⟩
          clear H4
          generalize pk S i = p at hp4 ⊢
          go_wp2
          exact ⟨⟨i + 1, by omega, by simp, fp4, H5⟩, by simp [intOf]; omega⟩
        case true =>
          rw [hKi] at ck
          have H5 : Box (Ss wa (w4.setCell ⟨V, pk S i, none⟩ (.int .u8 ((i : Int) + 1))) D V fp4 (ds S (i + 1)) (wnts S K (i + 1))) := ⟨by rw [wnts_yes S K i hKi]; exact H4.out.set _ _⟩
          obtain ⟨cv, fv⟩ := row_cell0 H4.out.l (pk S i) hp4
          clear H4
          generalize (wnts S K i).getD (pk S i) 0 = z0 at cv
          generalize pk S i = p at hp4 cv fv H5 ⊢
          go_wp2
          exact ⟨⟨i + 1, by omega, by simp, fp4, H5⟩, by simp [intOf]; omega⟩
      · have hKi : K.getD i false = false := by
          have := HK.out.1.1
          simp [List.getD, List.getElem?_eq_none (show K.length ≤ i by omega)]
        have H5 : Box (Ss wa w4 D V fp4 (ds S (i + 1)) (wnts S K (i + 1))) := ⟨by rw [wnts_no S K i hKi]; exact H4.out⟩
        clear H4 HK4
        generalize pk S i = p at hp4 ⊢
        go_wp2
        exact ⟨⟨i + 1, by omega, by simp, fp4, H5⟩, by simp [intOf]; omega⟩
    · obtain rfl : i = n := by omega
      have HPe : Box (Calls Try.prog 26 #[.pointer (some ⟨D, 0, none⟩)] wr fun e w' => e = .returned (.int .i64 (i : Int)) ∧ wr = w') := ⟨by
        have h := pending_cx HI.out.c
        rw [show (ds S i).uw.length = i from length_wl S i] at h
        exact h⟩
      have HCr : Box (Calls Try.prog 20 #[.pointer (some ⟨D, 0, none⟩), .slice ka kl kc] wr fun e w' => e = .returned (.tuple #[]) ∧ ∃ fp', Cx wa w' D fp' (crOk (ds S i) K) ∧ Fol wr fp w' fp') :=
        ⟨crash_cx HI.out.c ka kl kc K (HKw.out _ HI.out.c.bel) (fun ad e h0 hf => by have := HKn.out ad e h0; have := HI.out.c.lo _ hf; omega) (by simp [ds, length_wl]; omega) HK.out.2⟩
      clear HWr HSw HSn HKw HKn
      go_wp2_with (first
        | (go_at_call 20; refine HCr.out.mono ?_; rintro e w3 ⟨rfl, fp3, hc3, hf3⟩; have H3 : Box _ := ⟨HI.out.fol hc3 hf3⟩; clear hc3 hf3)
        | (go_at_call 26; refine HPe.out.mono ?_; rintro e w' ⟨rfl, rfl⟩))
      have HRd : Box (∀ (q : Nat) d wx fp, q < 4 → (∃ o : List (Int × Int), o.length < 1000 ∧ d = { crOk (ds S i) K with ops := o }) → Ss wa wx D V fp d (wnts S K i) → Calls Try.prog 21 #[.pointer (some ⟨D, 0, none⟩), .int .i64 (q : Int)] wx fun e w' => ∃ R fp', e = .returned (.tuple #[.slice (some ⟨R, 0, none⟩) 192 192, .int .i64 0]) ∧ Ss wa w' D V fp' (rdOk d q) (wnts S K i) ∧ w'.cell? ⟨R, 0, none⟩ = some (.int .u8 (wnt S K i q))) :=
        ⟨fun q d wx fp hq ⟨o, ho, hd⟩ H => by
          subst hd
          refine (read_cx H.c q rfl hq (by show o.length < 1000000; omega) (by show 0 < 1000000; omega)).mono ?_
          rintro e w' ⟨R, fp', rfl, h2, h3, h4, h5, h6, h7⟩
          exact ⟨R, fp', rfl, H.fol h2 h3, (row_cell0 h4 0 (by rw [h6]; omega)).1⟩⟩
      have HP0 : Box (∀ wx fp o, Ss wa wx D V fp { crOk (ds S i) K with ops := o } (wnts S K i) → Calls Try.prog 26 #[.pointer (some ⟨D, 0, none⟩)] wx fun e w' => e = .returned (.int .i64 0) ∧ wx = w') := ⟨fun wx fp o H => pending_cx H.c⟩
      have H3' : Box (∃ o : List (Int × Int), o.length ≤ 40 + 0 ∧ Ss wa w3 D V fp3 { crOk (ds S i) K with ops := o } (wnts S K i)) := ⟨(ds S i).ops, by simp [ds]; omega, H3.out⟩
      clear HPe HCr HI H3 HS HK
      rename_i ax _ _
      clear ax
      go_loopw [11] (fun j wr => ∃ q : Nat, q ≤ 4 ∧ j = .int .i64 q ∧ ∃ fp, Box (∃ o : List (Int × Int), o.length ≤ 40 + q ∧ Ss wa wr D V fp { crOk (ds S i) K with ops := o } (wnts S K i))) (fun j _ => 4 - (intOf j).toNat)
      case atStart => exact ⟨0, by omega, rfl, fp3, H3'⟩
      case round =>
        clear H3'
        obtain ⟨q, hq, rfl, fpq, HQ⟩ := hrel
        obtain ⟨o, ho, HQ⟩ := HQ.out
        have HQ2 : Box (Ss wa wr D V fpq { crOk (ds S i) K with ops := o } (wnts S K i)) := ⟨HQ⟩
        clear HQ
        by_cases hlt4 : q < 4
        · go_upto_region 25 with (go_at_call 21; refine (HRd.out q _ _ _ hlt4 ⟨o, by omega, rfl⟩ HQ2.out).mono ?_; rintro e w5 ⟨R, fp5, rfl, h5, c5⟩; have H5 : Box _ := ⟨h5⟩; clear h5)
          obtain ⟨cv, -⟩ := row_cell0 H5.out.l q hlt4
          rw [wnts_at S K i q hlt4] at cv
          generalize wnt S K i q = z at c5 cv
          clear HQ2 HRd
          go_quiet (fail)
          have H6 : Box (∃ o' : List (Int × Int), o'.length ≤ 40 + (q + 1) ∧ Ss wa (w5.drewN nq) D V fp5 { crOk (ds S i) K with ops := o' } (wnts S K i)) := ⟨o ++ [(1, (q : Int))], by simp; omega, H5.out.step ⟨rfl, rfl, rfl, Nat.le_refl _, fun _ _ => rfl⟩⟩
          generalize w5.drewN nq = w6 at H6 ⊢
          clear H5 c5 cv
          go_wp2
          exact ⟨⟨q + 1, by omega, by simp, fp5, H6⟩, by simp [intOf]; omega⟩
        · obtain rfl : q = 4 := by omega
          have e4 : ((4 : Nat) : Int) = 4 := rfl
          clear HRd
          go_wp2_with (go_at_call 26; refine (HP0.out _ _ _ HQ2.out).mono ?_; rintro e w' ⟨rfl, rfl⟩)
          go_ret
          exact ⟨rfl, BA.out.trans (HQ2.out.c.bel.mono BA.out.size)⟩
set_option maxRecDepth 20000 in
set_option maxHeartbeats 2000000 in
theorem some_out (a : Option Addr) (n ca : Nat) (ka : Option Addr) (kl kc : Nat) (w : World) (hn : 40 < n) :
    Calls Try.prog 8 #[.slice a n ca, .slice ka kl kc] w fun e w' => e = .returned (.bool true) ∧ Below w.heap.size w w' := by
  have HAw : Box _ := ⟨awake_any w⟩
  have h40 : decide (40 < (n : Int)) = true := by simp; omega
  go_enter Try.func8, Try.ntmps8
  go_wp2_with (go_at_call 9; refine HAw.out.mono ?_; rintro e wa ⟨rfl, hba⟩; have BA : Box _ := ⟨hba⟩; clear hba)
  go_ret
  exact ⟨rfl, BA.out⟩
theorem bools_fn {w : World} {x : Addr} {len cap : Nat} (B : Nat → Bool) (hl : len ≤ cap) (hc : ∀ i, i < cap → w.cell? (x.add i) = some (.bool (B i))) : Bools w (some x) len ((List.range len).map B) := by
  refine ⟨by simp, fun h0 => ?_⟩
  obtain ⟨b, o, l⟩ := x
  cases l with
  | none =>
    have h1 := hc 0 (by omega)
    rw [Addr.add_lit] at h1
    refine ⟨b, o, rfl, World.block_lt_of_cell? w _ h1, fun i hi => ?_⟩
    have h2 := hc i (by omega)
    rw [Addr.add_lit] at h2
    rw [h2]
    simp [List.getD, hi]
  | some l =>
    have h1 := hc 0 (by omega)
    simp [Addr.add, World.cell?] at h1
    split at h1 <;> cases h1
theorem diskSome_walk (a : Option Addr) (n ca : Nat) (zA : List Int) (ka : Option Addr) (kl kc : Nat) (K : List Bool) (w : World) (hA : IsRow .u8 w a n ca zA) (hK : Bools w ka kl K ∧ kl ≤ maxLen) :
    Calls Try.prog 8 #[.slice a n ca, .slice ka kl kc] w fun e w' => e = .returned (.bool true) ∧ Below w.heap.size w w' := by
  by_cases h : 40 < n
  · exact some_out a n ca ka kl kc w h
  · have mA := hA.pc
    exact some_in a n ca _ ka kl kc K w mA.1 (by omega) hK.1 hK.2
end Go.Proofs.Ytlokhbkjkobmaaa
