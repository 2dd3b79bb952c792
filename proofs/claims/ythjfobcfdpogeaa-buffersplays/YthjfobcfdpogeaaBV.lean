/-
  What each operation of a cache leaves, told once for the program and for the reference: the program's method does so, and so does the reference's function.
-/
import Derived.Test.YthjfobcfdpogeaaBU
namespace Go.Proofs.Ythjfobcfdpogeaa
set_option linter.unusedVariables false
open Go.RowKit Plain

/-- What is asked of rows of blocks: so many at most, held so often at most. -/
structure Bd (k : Nat) (L : List Kp) : Prop where
  len : L.length ≤ k
  hi : ∀ x ∈ L, x.h ≤ k
  lo : ∀ x ∈ L, 0 ≤ x.h
theorem Bd.up {k : Nat} {L : List Kp} (h : Bd k L) : Bd (k + 1) L := ⟨by have := h.len; omega, fun x hx => by have := h.hi x hx; omega, h.lo⟩
theorem St.lo {w0 w : World} {C : Nat} {n : Int} {L : List Kp} (h : St w0 w C n L) : ∀ x ∈ L, 0 ≤ x.h := fun x hx => by
  obtain ⟨⟨rv, h1⟩, _⟩ := h.cc
  exact (h1.u x hx).2.1
theorem rcs_congr {A B : List Kp} (h : A.map (fun x => (x.b, x.bs, x.h)) = B.map (fun x => (x.b, x.bs, x.h))) : rcs A = rcs B := by
  induction A generalizing B with
  | nil => cases B with
    | nil => rfl
    | cons y B => simp at h
  | cons x A ih => cases B with
    | nil => simp at h
    | cons y B =>
      simp only [List.map_cons, List.cons.injEq, Prod.mk.injEq] at h
      rw [rcs_cons, rcs_cons, ih h.2, rc, rc, h.1.1, h.1.2.1, h.1.2.2]
theorem RRow.congr {w : World} {rv : Value} {A B : List Kp} (h : RRow w rv A) (e : rcs A = rcs B) (hl : A.length = B.length) : RRow w rv B := by
  unfold RRow at h ⊢
  rw [← e, ← hl]
  exact h
theorem RRow.head {w : World} {rv : Value} {x y : Kp} {L : List Kp} (h : RRow w rv (x :: L)) (h1 : y.b = x.b) (h2 : y.bs = x.bs) (h3 : y.h = x.h) : RRow w rv (y :: L) :=
  h.congr (by rw [rcs_cons, rcs_cons, rc, rc, h1, h2, h3]) rfl
/-- Put: what it answers, and leaves. -/
inductive PutR (n : Int) (L : List Kp) (b : Int) (D : List Int) : Int → List Kp → Prop where
  | arg (h : D.length ≠ 160) : PutR n L b D 1 L
  | old (h : D.length = 160) (i : Nat) (hi : i < L.length) (hf : Fs L b i) (y : Kp) (h1 : y.b = b) (h2 : y.bs = D) (h3 : y.h = L[i].h) : PutR n L b D 0 (y :: L.eraseIdx i)
  | full (h : D.length = 160) (hn : No L b) (M : List Kp) (hr : Rm n L M false) : PutR n L b D 17 M
  | new (h : D.length = 160) (hn : No L b) (M : List Kp) (hr : Rm n L M true) (y : Kp) (h1 : y.b = b) (h2 : y.bs = D) (h3 : y.h = 0) : PutR n L b D 0 (y :: M)
theorem Bd.sub {k : Nat} {L M : List Kp} (h : Bd k L) (hs : M.Sublist L) : Bd k M := ⟨Nat.le_trans hs.length_le h.len, fun x hx => h.hi x (hs.subset hx), fun x hx => h.lo x (hs.subset hx)⟩
theorem Bd.cons {k : Nat} {L : List Kp} (h : Bd k L) (y : Kp) (h1 : 0 ≤ y.h ∧ y.h ≤ k + 1) : Bd (k + 1) (y :: L) := by
  refine ⟨by have := h.len; simp; omega, fun x hx => ?_, fun x hx => ?_⟩
  · rcases List.mem_cons.1 hx with rfl | hx
    · exact_mod_cast h1.2
    · have := h.hi x hx; omega
  · rcases List.mem_cons.1 hx with rfl | hx
    · exact h1.1
    · exact h.lo x hx
theorem PutR.bd {n : Int} {L L' : List Kp} {b : Int} {D : List Int} {e : Int} {k : Nat} (h : PutR n L b D e L') (hb : Bd k L) : Bd (k + 1) L' := by
  cases h with
  | arg h => exact hb.up
  | old h i hi hf y h1 h2 h3 =>
    have h4 := hb.hi _ (List.getElem_mem hi)
    have h5 := hb.lo _ (List.getElem_mem hi)
    exact (hb.sub (List.eraseIdx_sublist L i)).cons y (by omega)
  | full h hn M hr => exact (hb.sub hr.sub).up
  | new h hn M hr y h1 h2 h3 => exact (hb.sub hr.sub).cons y (by omega)
theorem put_all (w0 w : World) (C : Nat) (n : Int) (L : List Kp) (h : St w0 w C n L) (k : Nat) (hk : Bd k L) (hk2 : k < 1000) (b : Int) (hU : U64 b) (S c : Nat) (D : List Int) (h8 : B8 w S D) (l : Nat) (hl : D.length = l) :
    Calls Try.prog 11 #[.pointer (some ⟨C, 0, none⟩), .int .u64 b, .slice (some ⟨S, 0, none⟩) l c] w fun e w' => ∃ er L', e = .returned (.int .i64 er) ∧ PutR n L b D er L' ∧ St w0 w' C n L' ∧ Fr w0.heap.size w w' := by
  have hln := hk.len
  by_cases h160 : D.length = 160
  · obtain rfl : l = 160 := by omega
    rcases fs_or L b with hn | ⟨i, hi⟩
    · obtain ⟨M, ok, hr⟩ := rm_ex n L.length L rfl
      cases ok with
      | true =>
        refine (put_new' w0 w C n L M h b hU hn hr S c D h8 h160 (by omega)).mono ?_
        rintro e w' ⟨rfl, ⟨y, ly, hs⟩, hf⟩
        exact ⟨0, _, rfl, .new h160 hn M hr y ly.b ly.bs ly.h, hs, hf⟩
      | false =>
        refine (put_full' w0 w C n L M h b hn hr _ c).mono ?_
        rintro e w' ⟨rfl, hs, hf⟩
        exact ⟨17, M, rfl, .full h160 hn M hr, hs, hf⟩
    · refine (put_old' w0 w C n L h b i hi.1 hi S c D h8 h160).mono ?_
      rintro e w' ⟨rfl, ⟨y, ly, hs⟩, hf⟩
      exact ⟨0, _, rfl, .old h160 i hi.1 hi y ly.b ly.bs ly.h, hs, hf⟩
  · refine (put_arg w C b _ l c (by simp; omega)).mono ?_
    rintro e w' ⟨rfl, rfl⟩
    exact ⟨1, L, rfl, .arg h160, h, Fr.refl _ _⟩
theorem rput_all (w : World) (n : Int) (rv : Value) (L L' : List Kp) (h : RRow w rv L) (k : Nat) (hk : Bd k L) (hk2 : k < 1000) (b : Int) (D : List Int) (er : Int) (hp : PutR n L b D er L') :
    Calls Try.prog 12 #[.agg #[.int .i64 n, rv], .int .u64 b, .string (strOfNums D)] w fun e w' => ∃ rv', e = .returned (.tuple #[.agg #[.int .i64 n, rv'], .int .i64 er]) ∧ Rq w w' rv' L' := by
  have hln := hk.len
  cases hp with
  | arg h1 =>
    refine (rput_arg w n rv L h b D h1).mono ?_
    rintro e w' ⟨rfl, hb⟩
    exact ⟨rv, rfl, h.below hb, hb⟩
  | old h1 i hi hf y h2 h3 h4 =>
    refine (rput_old w n rv L h (by omega) b i hi hf D h1).mono ?_
    rintro e w' ⟨rv', rfl, hr, hb⟩
    have hib : L[i].b = b := by obtain ⟨_, h5, _⟩ := hf; exact h5
    exact ⟨rv', rfl, hr.head (by show y.b = L[i].b; rw [h2, hib]) h3 h4, hb⟩
  | full h1 hn M hr => exact rput_full w n rv L _ h (by omega) b hn hr hk.lo D h1
  | new h1 hn M hr y h2 h3 h4 =>
    refine (rput_new w n rv L M h (by omega) b hn hr hk.lo D h1).mono ?_
    rintro e w' ⟨rv', rfl, hr', hb⟩
    exact ⟨rv', rfl, hr'.head h2 h3 h4, hb⟩
/-- Get: what it answers, and leaves. -/
inductive GetR (L : List Kp) (b : Int) : Bool → List Int → List Kp → Prop where
  | no (hn : No L b) : GetR L b false [] L
  | ok (i : Nat) (hi : i < L.length) (hf : Fs L b i) : GetR L b true L[i].bs (fro L i hi)
theorem GetR.bd {L L' : List Kp} {b : Int} {ok : Bool} {s : List Int} {k : Nat} (h : GetR L b ok s L') (hb : Bd k L) : Bd (k + 1) L' := by
  cases h with
  | no hn => exact hb.up
  | ok i hi hf => exact ⟨by rw [length_fro]; have := hb.len; omega, fun x hx => by have := hb.hi x (mem_fro hx); omega, fun x hx => hb.lo x (mem_fro hx)⟩
theorem get_all (w0 w : World) (C : Nat) (n : Int) (L : List Kp) (h : St w0 w C n L) (b : Int) :
    Calls Try.prog 13 #[.pointer (some ⟨C, 0, none⟩), .int .u64 b] w fun e w' => ∃ a' l' c' ok s L', e = .returned (.tuple #[.slice a' l' c', .bool ok]) ∧ GetR L b ok s L' ∧ Bytes w' a' l' s ∧ Ok8 w' a' ∧ St w0 w' C n L' ∧ Fr w0.heap.size w w' := by
  rcases fs_or L b with hn | ⟨i, hi⟩
  · refine (get_no' w0 w C n L h b hn).mono ?_
    rintro e w' ⟨rfl, hs, hf⟩
    exact ⟨none, 0, 0, false, [], L, rfl, .no hn, bytes_none _, (fun ad e => by cases e), hs, hf⟩
  · have hil := hi.1
    refine (get_ok' w0 w C n L h b i hil hi).mono ?_
    rintro e w' ⟨⟨a', c', rfl, hw⟩, hs, hf⟩
    obtain ⟨⟨_, _⟩, hK⟩ := h.cc
    have hbt := (hK _ (List.getElem_mem hil)).2.1
    refine ⟨a', 160, c', true, L[i].bs, fro L i hil, rfl, .ok i hil hi, own_bytes hw hbt, fun ad e => ?_, hs, hf⟩
    subst e
    obtain ⟨cs, hc⟩ := own_type (own_low2 hw (Nat.zero_le _)) (k := ad.block) rfl
    exact not_CK hc (by decide) (by decide)
theorem rget_all (w : World) (n : Int) (rv : Value) (L L' : List Kp) (h : RRow w rv L) (hl : L.length < 1000) (b : Int) (ok : Bool) (s : List Int) (hp : GetR L b ok s L') :
    Calls Try.prog 14 #[.agg #[.int .i64 n, rv], .int .u64 b] w fun e w' => ∃ rv', e = .returned (.tuple #[.agg #[.int .i64 n, rv'], .string (strOfNums s), .bool ok]) ∧ Rq w w' rv' L' := by
  cases hp with
  | no hn =>
    refine (rget_no w n rv L h (by omega) b hn).mono ?_
    rintro e w' ⟨rfl, hb⟩
    exact ⟨rv, rfl, h.below hb, hb⟩
  | ok i hi hf => exact rget_ok w n rv L h (by omega) b i hi hf
/-- Pin, Unpin: what they answer, and leave. -/
inductive HoldR (by_ : Int) (L : List Kp) (b : Int) : Bool → List Kp → Prop where
  | no (hn : No L b) : HoldR by_ L b false L
  | neg (i : Nat) (hi : i < L.length) (hf : Fs L b i) (hh : L[i].h = 0) (hb : by_ = -1) : HoldR by_ L b false L
  | ok (i : Nat) (hi : i < L.length) (hf : Fs L b i) (hh : 0 ≤ L[i].h + by_) : HoldR by_ L b true (L.set i { L[i] with h := L[i].h + by_ })
theorem HoldR.bd {by_ : Int} {L L' : List Kp} {b : Int} {ok : Bool} {k : Nat} (h : HoldR by_ L b ok L') (hb : Bd k L) (h1 : by_ ≤ 1) : Bd (k + 1) L' := by
  cases h with
  | no hn => exact hb.up
  | neg i hi hf hh hb' => exact hb.up
  | ok i hi hf hh =>
    have h4 := hb.hi _ (List.getElem_mem hi)
    refine ⟨by rw [List.length_set]; have := hb.len; omega, fun x hx => ?_, fun x hx => ?_⟩
    · rcases List.mem_or_eq_of_mem_set hx with hx | rfl
      · have := hb.hi x hx; omega
      · simp only; omega
    · rcases List.mem_or_eq_of_mem_set hx with hx | rfl
      · exact hb.lo x hx
      · exact hh
theorem pin_all (w0 w : World) (C : Nat) (n : Int) (L : List Kp) (h : St w0 w C n L) (k : Nat) (hk : Bd k L) (hk2 : k < 1000) (b : Int) :
    Calls Try.prog 15 #[.pointer (some ⟨C, 0, none⟩), .int .u64 b] w fun e w' => ∃ ok L', e = .returned (.bool ok) ∧ HoldR 1 L b ok L' ∧ St w0 w' C n L' ∧ Fr w0.heap.size w w' := by
  rcases fs_or L b with hn | ⟨i, hi⟩
  · exact (pin_no' w0 w C n L h b hn).mono fun e w' k => ⟨false, L, k.1, .no hn, k.2.1, k.2.2⟩
  · have hil := hi.1
    have h1 := hk.hi _ (List.getElem_mem hil)
    have h2 := hk.lo _ (List.getElem_mem hil)
    exact (pin_ok' w0 w C n L h b i hil hi (by omega)).mono fun e w' k => ⟨true, _, k.1, .ok i hil hi (by omega), k.2.1, k.2.2⟩
theorem unpin_all (w0 w : World) (C : Nat) (n : Int) (L : List Kp) (h : St w0 w C n L) (b : Int) :
    Calls Try.prog 17 #[.pointer (some ⟨C, 0, none⟩), .int .u64 b] w fun e w' => ∃ ok L', e = .returned (.bool ok) ∧ HoldR (-1) L b ok L' ∧ St w0 w' C n L' ∧ Fr w0.heap.size w w' := by
  rcases fs_or L b with hn | ⟨i, hi⟩
  · exact (unpin_no' w0 w C n L h b hn).mono fun e w' k => ⟨false, L, k.1, .no hn, k.2.1, k.2.2⟩
  · have hil := hi.1
    have h2 := h.lo _ (List.getElem_mem hil)
    by_cases h0 : L[i].h = 0
    · exact (unpin_zero' w0 w C n L h b i hil hi h0).mono fun e w' k => ⟨false, L, k.1, .neg i hil hi h0 rfl, k.2.1, k.2.2⟩
    · exact (unpin_ok' w0 w C n L h b i hil hi h0).mono fun e w' k => ⟨true, _, k.1, .ok i hil hi (by omega), k.2.1, k.2.2⟩
theorem rhold_all (w : World) (n : Int) (rv : Value) (L L' : List Kp) (h : RRow w rv L) (k : Nat) (hk : Bd k L) (hk2 : k < 1000) (b : Int) (by_ : Int) (hby : -1 ≤ by_ ∧ by_ ≤ 1) (ok : Bool) (hp : HoldR by_ L b ok L') :
    Calls Try.prog 16 #[.agg #[.int .i64 n, rv], .int .u64 b, .int .i64 by_] w fun e w' => ∃ rv', e = .returned (.tuple #[.agg #[.int .i64 n, rv'], .bool ok]) ∧ Rq w w' rv' L' := by
  have hln := hk.len
  cases hp with
  | no hn =>
    refine (rhold_no w n rv L h (by omega) b by_ hn).mono ?_
    rintro e w' ⟨rfl, hb⟩
    exact ⟨rv, rfl, h.below hb, hb⟩
  | neg i hi hf hh hb =>
    subst hb
    refine (rhold_neg w n rv L h (by omega) b i hi hf hh).mono ?_
    rintro e w' ⟨rfl, hb⟩
    exact ⟨rv, rfl, h.below hb, hb⟩
  | ok i hi hf hh =>
    have h1 := hk.hi _ (List.getElem_mem hi)
    exact rhold_ok w n rv L h (by omega) b i hi hf by_ hby ⟨hh, by omega⟩
/-- Drop: what it answers, and leaves. -/
inductive DropR (L : List Kp) (b : Int) : Bool → List Kp → Prop where
  | no (hn : No L b) : DropR L b false L
  | held (i : Nat) (hi : i < L.length) (hf : Fs L b i) (hh : 0 < L[i].h) : DropR L b false L
  | ok (i : Nat) (hi : i < L.length) (hf : Fs L b i) (hh : L[i].h = 0) : DropR L b true (L.eraseIdx i)
theorem DropR.bd {L L' : List Kp} {b : Int} {ok : Bool} {k : Nat} (h : DropR L b ok L') (hb : Bd k L) : Bd (k + 1) L' := by
  cases h with
  | no hn => exact hb.up
  | held i hi hf hh => exact hb.up
  | ok i hi hf hh => exact (hb.sub (List.eraseIdx_sublist L i)).up
theorem drop_all (w0 w : World) (C : Nat) (n : Int) (L : List Kp) (h : St w0 w C n L) (b : Int) :
    Calls Try.prog 18 #[.pointer (some ⟨C, 0, none⟩), .int .u64 b] w fun e w' => ∃ ok L', e = .returned (.bool ok) ∧ DropR L b ok L' ∧ St w0 w' C n L' ∧ Fr w0.heap.size w w' := by
  rcases fs_or L b with hn | ⟨i, hi⟩
  · exact (drop_no' w0 w C n L h b hn).mono fun e w' k => ⟨false, L, k.1, .no hn, k.2.1, k.2.2⟩
  · have hil := hi.1
    have h2 := h.lo _ (List.getElem_mem hil)
    by_cases h0 : L[i].h = 0
    · exact (drop_ok' w0 w C n L h b i hil hi h0).mono fun e w' k => ⟨true, _, k.1, .ok i hil hi h0, k.2.1, k.2.2⟩
    · exact (drop_held' w0 w C n L h b i hil hi h0).mono fun e w' k => ⟨false, L, k.1, .held i hil hi (by omega), k.2.1, k.2.2⟩
theorem rdrop_all (w : World) (n : Int) (rv : Value) (L L' : List Kp) (h : RRow w rv L) (hl : L.length < 1000) (b : Int) (ok : Bool) (hp : DropR L b ok L') :
    Calls Try.prog 19 #[.agg #[.int .i64 n, rv], .int .u64 b] w fun e w' => ∃ rv', e = .returned (.tuple #[.agg #[.int .i64 n, rv'], .bool ok]) ∧ Rq w w' rv' L' := by
  cases hp with
  | no hn =>
    refine (rdrop_no w n rv L h (by omega) b hn).mono ?_
    rintro e w' ⟨rfl, hb⟩
    exact ⟨rv, rfl, h.below hb, hb⟩
  | held i hi hf hh =>
    refine (rdrop_held w n rv L h (by omega) b i hi hf hh).mono ?_
    rintro e w' ⟨rfl, hb⟩
    exact ⟨rv, rfl, h.below hb, hb⟩
  | ok i hi hf hh => exact rdrop_ok w n rv L h (by omega) b i hi hf hh
/-- A cache of the program's, and the reference's beside it, in block G. -/
structure Py (w wr : World) (C G : Nat) (n : Int) (rv : Value) (L : List Kp) (k : Nat) : Prop where
  st : St w wr C n L
  g : wr.heap[G]? = some (.cells #[.int .i64 n, rv] 28 (0, 0))
  rr : RRow wr rv L
  bd : Bd k L
  lo : w.heap.size ≤ G
theorem Py.below {w wr wx : World} {C G : Nat} {n : Int} {rv : Value} {L : List Kp} {k : Nat} (h : Py w wr C G n rv L k) (hb : Below wr.heap.size wr wx) : Py w wx C G n rv L k :=
  ⟨h.st.below hb, (hb.block G (Array.getElem?_eq_some_iff.1 h.g).1).trans h.g, h.rr.below hb, h.bd, h.lo⟩
theorem Py.range {w wr : World} {C G : Nat} {n : Int} {rv : Value} {L : List Kp} {k : Nat} (h : Py w wr C G n rv L k) : wr.rangeAt G 0 [.int .i64 n, rv] := range_arr h.g _ (fun j v hv => by simpa using hv)
theorem g_fr {B : Nat} {w w' : World} {G : Nat} {cs : Array Value} (h : w.heap[G]? = some (.cells cs 28 (0, 0))) (hf : Fr B w w') : w'.heap[G]? = some (.cells cs 28 (0, 0)) := hf.row h (by decide) (by decide)
/-- The reference's cache set anew, out of a box Z that was made for it. -/
theorem Py.nextB {w w5 w7 : World} {C G : Nat} {n : Int} {rv rv' : Value} {L' : List Kp} {k : Nat} (hs : St w w5 C n L') (hg : w5.heap[G]? = some (.cells #[.int .i64 n, rv] 28 (0, 0))) (hr : RRow w5 rv' L') (hb : Bd k L') (hlo : w.heap.size ≤ G) (hbt : But G w5 w7) (hrow : w7.heap[G]? = some (.cells #[.int .i64 n, rv'] 28 (0, 0))) :
    Py w w7 C G n rv' L' k := by
  have hgl := (Array.getElem?_eq_some_iff.1 hg).1
  obtain ⟨⟨⟨rk, hA⟩, hK⟩, hbl⟩ := hs
  have hne : ∀ j {cs : Array Value} {t : TypeId}, w5.heap[j]? = some (.cells cs t (0, 0)) → t ≠ 28 → j ≠ G := fun j cs t h ht e => by
    rw [e, hg] at h
    simp only [Option.some.injEq, Obj.cells.injEq] at h
    exact ht h.2.1.symm
  have hC : C ≠ G := hne C hA.hd (by decide)
  have same : ∀ j, j < w5.heap.size → j ≠ G → w7.heap[j]? = w5.heap[j]? := fun j hj hn => hbt.block j hj hn
  refine ⟨⟨⟨⟨rk, (same C hA.lt hC).trans hA.hd, own_same hA.row (fun j hj => ?_), hA.u, hA.hC, hA.hR, hA.len⟩, fun x hx => ?_⟩, hbl.trans (hbt.below hlo hbl.size)⟩, ?_, own_same hr (fun j hj => ?_), hb, hlo⟩
  · obtain ⟨cs, hc⟩ := own_type hA.row hj
    exact same j (hA.row.lt j hj).2 (hne j hc (by decide))
  · obtain ⟨k1, k2, k3⟩ := hK x hx
    refine ⟨k1, k2, own_same k3 (fun j hj => ?_)⟩
    obtain ⟨cs, hc⟩ := own_type k3 hj
    exact same j (k3.lt j hj).2 (hne j hc (by decide))
  · exact hrow
  · obtain ⟨cs, hc⟩ := own_type hr hj
    exact same j (hr.lt j hj).2 (hne j hc (by decide))
theorem Py.next {w w5 : World} {C G : Nat} {n : Int} {rv rv' : Value} {L' : List Kp} {k : Nat} (hs : St w w5 C n L') (hg : w5.heap[G]? = some (.cells #[.int .i64 n, rv] 28 (0, 0))) (hr : RRow w5 rv' L') (hb : Bd k L') (hlo : w.heap.size ≤ G) :
    Py w (w5.setCells G 0 [.int .i64 n, rv']) C G n rv' L' k := by
  refine Py.nextB hs hg hr hb hlo (But.setCells (G := G) [.int .i64 n, rv'] 0 (But.refl G w5)) ?_
  rw [heap_setCells G _ [.int .i64 n, rv'] 0 w5 _ hg (by simp)]
  simp [splice]
end Go.Proofs.Ythjfobcfdpogeaa
