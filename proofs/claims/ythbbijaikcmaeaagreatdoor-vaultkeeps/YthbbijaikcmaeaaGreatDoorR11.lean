/-
  A disk of a statement's own: what each call leaves of it, and of the rows of bytes beside it. And what follows it.
-/
import Derived.Test.YthbbijaikcmaeaaGreatDoorR10
namespace Go.Proofs.YthbbijaikcmaeaaGreatDoor.Disk.Plain
set_option maxRecDepth 100000
end Go.Proofs.YthbbijaikcmaeaaGreatDoor.Disk.Plain
namespace Go.Proofs.YthbbijaikcmaeaaGreatDoor.Disk
set_option maxRecDepth 100000
set_option linter.unusedVariables false
set_option maxRecDepth 100000
open Go.RowKit Go.Proofs.YthbbijaikcmaeaaGreatDoor.Plain Go.Proofs.YthbbijaikcmaeaaGreatDoor.Disk.Plain
/-- A disk of a call's own: all its blocks are newer than w0's. -/
structure Cx (w0 w : World) (D : Nat) (fp : Nat → Prop) (d : Dk) : Prop where
  is : Is w D fp d
  bel : Below w0.heap.size w0 w
  lo : ∀ k, fp k → w0.heap.size ≤ k
  hi : ∀ k, fp k → k < w.heap.size
/-- What follows: nothing but the disk's blocks has turned, and it has taken none of another's. -/
structure Fol (w : World) (fp : Nat → Prop) (w' : World) (fp' : Nat → Prop) : Prop where
  t : Turned fp w w'
  k : ∀ k, k < w.heap.size → ¬ fp k → ¬ fp' k
/-- A row of bytes that is not the disk's. -/
structure Loc (w : World) (fp : Nat → Prop) (g : Nat) (B : List Int) (t : TypeId) : Prop where
  row : w.heap[g]? = some (.cells (u8s B) t (0, 0))
  no : ¬ fp g
theorem Loc.lt {w : World} {fp : Nat → Prop} {g : Nat} {B : List Int} {t : TypeId} (h : Loc w fp g B t) : g < w.heap.size := (Array.getElem?_eq_some_iff.1 h.row).1
theorem Loc.fol {w w' : World} {fp fp' : Nat → Prop} {g : Nat} {B : List Int} {t : TypeId} (h : Loc w fp g B t) (f : Fol w fp w' fp') : Loc w' fp' g B t :=
  ⟨(f.t.block g h.lt h.no).trans h.row, f.k g h.lt h.no⟩
theorem Loc.below {w w' : World} {fp : Nat → Prop} {g : Nat} {B : List Int} {t : TypeId} (h : Loc w fp g B t) (hb : Below w.heap.size w w') : Loc w' fp g B t := ⟨(hb.block g h.lt).trans h.row, h.no⟩
theorem Loc.bytes {w : World} {fp : Nat → Prop} {g : Nat} {B : List Int} {t : TypeId} (h : Loc w fp g B t) (hB : Byt B) (n : Nat) (hn : B.length = n) : Bytes w (some ⟨g, 0, none⟩) n B := by
  subst hn
  exact bytes_of_row hB h.row
theorem Cx.step {w0 w w' : World} {D : Nat} {fp : Nat → Prop} {d : Dk} (h : Cx w0 w D fp d) (hb : Below w.heap.size w w') : Cx w0 w' D fp d :=
  ⟨h.is.below hb, below_to h.bel hb, h.lo, fun k hk => Nat.lt_of_lt_of_le (h.hi k hk) hb.size⟩
theorem Cx.nx {w0 w w' : World} {D : Nat} {fp : Nat → Prop} {d d' : Dk} (h : Cx w0 w D fp d) (n : Nx D fp w w' d') : ∃ fp', Cx w0 w' D fp' d' ∧ Fol w fp w' fp' := by
  obtain ⟨f, i, t, s⟩ := n
  refine ⟨_, ⟨i.cut, h.bel.trans (t.below h.bel.size h.lo), fun k hk => ?_, fun k hk => hk.2⟩, ⟨t, fun k hk hn hf => (s k hf.1).elim hn (fun h => by omega)⟩⟩
  rcases s k hk.1 with h1 | h1
  · exact h.lo k h1
  · exact Nat.le_trans h.bel.size h1
theorem Cx.set {w0 w : World} {D : Nat} {fp : Nat → Prop} {d : Dk} (h : Cx w0 w D fp d) (g i : Nat) (v : Value) (hn : ¬ fp g) (hg : w0.heap.size ≤ g) : Cx w0 (w.setCell ⟨g, i, none⟩ v) D fp d :=
  ⟨h.is.same (fun k hk _ => heap_setCell_other w ⟨g, i, none⟩ k _ (fun e => hn (by have e' : g = k := e.symm; rw [e']; exact hk))), below_set h.bel hg v, h.lo, fun k hk => by simpa using h.hi k hk⟩
theorem Loc.set {w : World} {fp : Nat → Prop} {g : Nat} {B : List Int} {t : TypeId} (h : Loc w fp g B t) (i : Nat) (z : Int) : Loc (w.setCell ⟨g, i, none⟩ (.int .u8 z)) fp g (B.set i z) t :=
  ⟨by rw [heap_setCell_same w g i _ t _ h.row, u8s_set], h.no⟩
theorem Loc.other {w : World} {fp : Nat → Prop} {g g' : Nat} {B : List Int} {t : TypeId} (h : Loc w fp g B t) (i : Nat) (v : Value) (hne : g ≠ g') : Loc (w.setCell ⟨g', i, none⟩ v) fp g B t :=
  ⟨by rw [heap_setCell_other w ⟨g', i, none⟩ g _ hne]; exact h.row, h.no⟩
theorem Loc.new {w : World} {fp : Nat → Prop} (hf : ∀ k, fp k → k < w.heap.size) (B : List Int) (t : TypeId) : Loc (w.alloc (.cells (u8s B) t)) fp w.heap.size B t := ⟨al_at rfl, fun h => by have := hf _ h; omega⟩
theorem cx_new {w w' : World} {n : Nat} (i : Is w' (w.heap.size + 1) (fun k => w.heap.size ≤ k) (dk0 n)) (b : Below w.heap.size w w') : ∃ fp, Cx w w' (w.heap.size + 1) fp (dk0 n) :=
  ⟨_, i.cut, b, fun k hk => hk.1, fun k hk => hk.2⟩
theorem new_cx (w : World) (n : Nat) (hn : 1 ≤ n ∧ n ≤ 4096) : Calls Tryz.prog 8 #[.int .i64 (n : Int)] w fun e w' => e = .returned (.tuple #[.pointer (some ⟨w.heap.size + 1, 0, none⟩), .int .i64 0]) ∧ ∃ fp, Cx w w' (w.heap.size + 1) fp (dk0 n) :=
  (new_any w n hn).mono fun e w' ⟨h1, h2, h3⟩ => ⟨h1, cx_new h2 h3⟩
theorem write_cx {w0 w : World} {D : Nat} {fp : Nat → Prop} {d : Dk} (C : Cx w0 w D fp d) (i : Nat) (a : Option Addr) (cap : Nat) (B : List Int) (hB : Bytes w a 192 B) (hap : ∀ ad, a = some ad → ¬ fp ad.block) (hd : d.down = false) (hi : i < d.n) (hst : d.st = true → d.left ≠ 0) (hl : 0 ≤ d.left ∧ d.left ≤ 9223372036854775807) (ho : d.ops.length < 1000000) (hu : d.uw.length < 1000000) :
    Calls Tryz.prog 55 #[.pointer (some ⟨D, 0, none⟩), .int .i64 (i : Int), .slice a 192 cap] w fun e w' => e = .returned (.int .i64 0) ∧ ∃ fp', Cx w0 w' D fp' (wrOk d i B) ∧ Fol w fp w' fp' :=
  (write_ok w D fp d C.is i a cap B hB hap hd hi hst hl ho hu).mono fun e w' ⟨h1, h2⟩ => ⟨h1, C.nx h2⟩
theorem flush_cx {w0 w : World} {D : Nat} {fp : Nat → Prop} {d : Dk} (C : Cx w0 w D fp d) (hd : d.down = false) (ho : d.ops.length < 1000000) (hu : d.uw.length < 1000000) :
    Calls Tryz.prog 12 #[.pointer (some ⟨D, 0, none⟩)] w fun e w' => e = .returned (.int .i64 0) ∧ ∃ fp', Cx w0 w' D fp' (flOk d) ∧ Fol w fp w' fp' :=
  (flush_ok w D fp d C.is hd ho hu).mono fun e w' ⟨h1, h2⟩ => ⟨h1, C.nx h2⟩
theorem crash_cx {w0 w : World} {D : Nat} {fp : Nat → Prop} {d : Dk} (C : Cx w0 w D fp d) (ka : Option Addr) (kl kc : Nat) (K : List Bool) (hK : Bools w ka kl K) (hKn : ∀ ad, ka = some ad → 0 < kl → ¬ fp ad.block) (hu : d.uw.length < 1000000) (hkl : kl ≤ maxLen) :
    Calls Tryz.prog 15 #[.pointer (some ⟨D, 0, none⟩), .slice ka kl kc] w fun e w' => e = .returned (.tuple #[]) ∧ ∃ fp', Cx w0 w' D fp' (crOk d K) ∧ Fol w fp w' fp' :=
  (crash_any w D fp d C.is ka kl kc K hK hKn hu hkl).mono fun e w' ⟨h1, h2⟩ => ⟨h1, C.nx h2⟩
theorem read_cx {w0 w : World} {D : Nat} {fp : Nat → Prop} {d : Dk} (C : Cx w0 w D fp d) (i : Nat) (hd : d.down = false) (hi : i < d.n) (ho : d.ops.length < 1000000) (hu : d.uw.length < 1000000) :
    Calls Tryz.prog 65 #[.pointer (some ⟨D, 0, none⟩), .int .i64 (i : Int)] w fun e w' =>
      ∃ R fp', e = .returned (.tuple #[.slice (some ⟨R, 0, none⟩) 192 192, .int .i64 0]) ∧ Cx w0 w' D fp' (rdOk d i) ∧ Fol w fp w' fp' ∧ Loc w' fp' R (lat d i) 93 ∧ w.heap.size ≤ R ∧ (lat d i).length = 192 ∧ Byt (lat d i) := by
  have hlen : (lat d i).length = 192 ∧ Byt (lat d i) := by
    obtain ⟨P, uv, ov, h1, _⟩ := C.is
    exact length_lat h1 i
  refine (read_ok w D fp d C.is i hd hi (by omega) (by omega)).mono ?_
  rintro e w' ⟨R, fp', rfl, h1, h2, h3, h4, h5, h6⟩
  refine ⟨R, _, rfl, ⟨h1.cut, C.bel.trans (h2.below C.bel.size C.lo), fun k hk => ?_, fun k hk => hk.2⟩, ⟨h2, fun k hk hn hf => (h3 k hf.1).elim hn (fun h => by omega)⟩, ⟨h6, fun h => h4 h.1⟩, h5, hlen⟩
  rcases h3 k hk.1 with h7 | h7
  · exact C.lo k h7
  · exact Nat.le_trans C.bel.size h7
theorem size_cx {w0 w : World} {D : Nat} {fp : Nat → Prop} {d : Dk} (C : Cx w0 w D fp d) : Calls Tryz.prog 24 #[.pointer (some ⟨D, 0, none⟩)] w fun e w' => e = .returned (.int .i64 (d.n : Int)) ∧ w = w' := by
  obtain ⟨P, uv, ov, h1, _⟩ := C.is
  exact size_any w D P uv ov d h1
theorem bools_none (w : World) : Bools w none 0 [] := ⟨rfl, fun h => by omega⟩
end Go.Proofs.YthbbijaikcmaeaaGreatDoor.Disk
namespace Go.Proofs.YthbbijaikcmaeaaGreatDoor.Disk.Plain
set_option maxRecDepth 100000
end Go.Proofs.YthbbijaikcmaeaaGreatDoor.Disk.Plain
namespace Go.Proofs.YthbbijaikcmaeaaGreatDoor.Disk
set_option maxRecDepth 100000
set_option linter.unusedVariables false
open Go.RowKit Go.Proofs.YthbbijaikcmaeaaGreatDoor.Plain Go.Proofs.YthbbijaikcmaeaaGreatDoor.Disk.Plain
theorem lastOf_snoc (L : List (Nat × List Int)) (x : Nat × List Int) (j : Nat) : lastOf (L ++ [x]) j = if x.1 = j then some x.2 else lastOf L j := by
  unfold lastOf
  rw [List.reverse_append]
  simp only [List.reverse_cons, List.reverse_nil, List.nil_append, List.cons_append, List.find?_cons]
  by_cases h : x.1 = j
  · simp [h]
  · have : (x.1 == j) = false := by simpa using h
    simp [this, h]
theorem snoc_ind {α : Type} {p : List α → Prop} (L : List α) (nil : p []) (snoc : ∀ L x, p L → p (L ++ [x])) : p L := by
  have : ∀ R : List α, p R.reverse := fun R => by
    induction R with
    | nil => exact nil
    | cons x R ih => rw [List.reverse_cons]; exact snoc _ _ ih
  have h := this L.reverse
  rwa [List.reverse_reverse] at h
theorem lay_get (L : List (Nat × List Int)) (pl : Nat → List Int) (j : Nat) : lay L pl j = (lastOf L j).getD (pl j) := by
  refine snoc_ind (p := fun L => lay L pl j = (lastOf L j).getD (pl j)) L rfl (fun L x ih => ?_)
  show lay (L ++ [x]) pl j = (lastOf (L ++ [x]) j).getD (pl j)
  rw [lay_snoc, lastOf_snoc, upd]
  by_cases h : j = x.1
  · rw [if_pos h, if_pos h.symm]; rfl
  · rw [if_neg h, if_neg (Ne.symm h)]; exact ih
theorem lat_wr (d : Dk) (i j : Nat) (B : List Int) : lat (wrOk d i B) j = if i = j then B else lat d j := by
  unfold lat
  rw [show (wrOk d i B).uw = d.uw ++ [(i, B)] from rfl, lastOf_snoc]
  split <;> rfl
theorem lat_fl (d : Dk) (j : Nat) : lat (flOk d) j = lat d j := by
  have : lat (flOk d) j = lay d.uw d.pl j := rfl
  rw [this, lay_get]
  rfl
theorem lat_cr (d : Dk) (K : List Bool) (j : Nat) : lat (crOk d K) j = lay (kp d.uw K) d.pl j := rfl
/-- The bytes that the example writes, and its disk behind each call. -/
def b7 : List Int := z192.set 0 7
def a1 : Dk := wrOk (dk0 2) 1 b7
def a2 : Dk := rdOk a1 1
def a3 : Dk := crOk a2 []
def a4 : Dk := rdOk a3 1
end Go.Proofs.YthbbijaikcmaeaaGreatDoor.Disk
namespace Go.Proofs.YthbbijaikcmaeaaGreatDoor.Disk.Plain
set_option maxRecDepth 100000
end Go.Proofs.YthbbijaikcmaeaaGreatDoor.Disk.Plain
namespace Go.Proofs.YthbbijaikcmaeaaGreatDoor.Disk
set_option maxRecDepth 100000
set_option linter.unusedVariables false
open Go.RowKit Go.Proofs.YthbbijaikcmaeaaGreatDoor.Plain Go.Proofs.YthbbijaikcmaeaaGreatDoor.Disk.Plain
def nils (m : Nat) : List Value := List.replicate m (Value.slice none 0 0)
theorem nils_succ (m : Nat) : nils (m + 1) = Value.slice none 0 0 :: nils m := rfl
/-- Rows of bytes of a call's own: the places' bytes, so far. -/
structure Rws (w wr : World) (g n k : Nat) (pl : Nat → List Int) (L : List Value) : Prop where
  row : wr.heap[g]? = some (.cells (L ++ nils (n - k)).toArray 38 (0, 0))
  len : L.length = k
  each : ∀ i (h : i < L.length), wr.ownsRow 0 5 1 L[i] 192 ((pl i).map (Value.int .u8)) ∧ ∀ j, L[i].ownBlock = some j → g < j
  lo : w.heap.size ≤ g
  bel : Below w.heap.size w wr
theorem Rws.step {w wr wx : World} {g n k : Nat} {pl : Nat → List Int} {L : List Value} (h : Rws w wr g n k pl L) (hk : k < n) (v : Value) (hb : Below wr.heap.size wr wx) (hv : wx.ownsRow 0 5 1 v 192 ((pl k).map (Value.int .u8))) (hl : ∀ j, v.ownBlock = some j → wr.heap.size ≤ j) : Rws w (wx.setCell ⟨g, k, none⟩ v) g n (k + 1) pl (L ++ [v]) := by
  have hg : g < wr.heap.size := (Array.getElem?_eq_some_iff.1 h.row).1
  have hne : ∀ u : Value, (∀ j, u.ownBlock = some j → g < j) → ∀ j, u.ownBlock = some j → (wx.setCell ⟨g, k, none⟩ v).heap[j]? = wx.heap[j]? := fun u hu j hj => heap_setCell_other wx ⟨g, k, none⟩ j _ (fun e => by have := hu j hj; simp at e; omega)
  refine ⟨?_, by simp [h.len], fun i hi => ?_, h.lo, below_set (h.bel.trans (hb.mono h.bel.size)) h.lo v⟩
  · rw [heap_setCell_same wx g k _ _ v ((hb.block g hg).trans h.row)]
    congr 2
    rw [show n - k = n - (k + 1) + 1 by omega, nils_succ]
    simp [← h.len]
  · by_cases hik : i < L.length
    · have e : (L ++ [v])[i] = L[i] := List.getElem_append_left hik
      rw [e]
      obtain ⟨h1, h2⟩ := h.each i hik
      exact ⟨own_same (own_same h1 (fun j hj => hb.block j (h1.lt j hj).2)) (hne _ h2), h2⟩
    · have hik2 : i = L.length := by simp at hi; omega
      subst hik2
      have e : (L ++ [v])[L.length]'(by simp) = v := by simp
      rw [e, h.len]
      have h2 : ∀ j, v.ownBlock = some j → g < j := fun j hj => by have := hl j hj; omega
      exact ⟨own_same hv (hne _ h2), h2⟩
theorem infoRow : (Tryz.prog.info? 38).map (fun i => (i.zero, i.size, i.bytes)) = some (some (.slice none 0 0), 1, 24) := by kernel_rfl
theorem made_nil (n : Nat) : madeCells #[.slice none 0 0] n = (nils n).toArray := by
  unfold nils
  apply Array.ext
  · simp [size_made]
  · intro i h1 h2
    simp [madeCells]
    have : i % 1 = 0 := by omega
    simp [this]
end Go.Proofs.YthbbijaikcmaeaaGreatDoor.Disk
