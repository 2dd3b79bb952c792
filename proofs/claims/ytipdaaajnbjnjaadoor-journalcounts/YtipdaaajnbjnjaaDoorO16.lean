/-
  What slices.Clone, Ops and Image of package disk answer, and the bytes that the statements write. And what follows it.
-/
import Derived.Test.YtipdaaajnbjnjaaDoorO15
namespace Go.Proofs.YtipdaaajnbjnjaaDoor.Disk.Plain
set_option maxRecDepth 100000
end Go.Proofs.YtipdaaajnbjnjaaDoor.Disk.Plain
namespace Go.Proofs.YtipdaaajnbjnjaaDoor.Disk
set_option maxRecDepth 100000
set_option linter.unusedVariables false
open Go.RowKit Go.Proofs.YtipdaaajnbjnjaaDoor.Plain Go.Proofs.YtipdaaajnbjnjaaDoor.Disk.Plain
/-- Nothing is appended out of a row of none. -/
theorem own_empty (w : World) (e : TypeId) (sz : Nat) : (w.alloc (.cells #[] e)).ownsRow 0 e sz (.slice (some ⟨w.heap.size, 0, none⟩) 0 0) 0 [] := World.ownsRow_made w #[] 0 (Nat.zero_le _) (by unfold maxLen; omega) (by simp)
theorem eqIn_nil {P : Program} (w : World) (n : Nat) (t e : TypeId) (a : Option Addr) (l c : Nat) (h : P.underlying t = some (.slice e)) : (Op.equalIn (n + 1) t (.slice a l c) (.slice none 0 0)).run P w = .ok a.isNone w := by
  cases a <;> simp [Op.equalIn, run_underlying h]
theorem eql_nil {P : Program} (w : World) (t e : TypeId) (a : Option Addr) (l c : Nat) (h : P.underlying t = some (.slice e)) : (binOp .eql t (.slice a l c) (.slice none 0 0)).run P w = .ok (.bool a.isNone) w := by
  have h1 : (Op.equal t (.slice a l c) (.slice none 0 0)).run P w = .ok a.isNone w := eqIn_nil w 9999 t e a l c h
  simp only [binOp]
  simp [h1]
theorem below_grown {w w2 : World} {o : Obj} {row : Option Nat} (hg : (w.alloc o).grownBy w2 row) (hr : ∀ k, row = some k → w.heap.size ≤ k) : Below w.heap.size w w2 :=
  ((Below.refl _ w).alloc (Nat.le_refl _) o).grown hg (by simp) hr
set_option maxRecDepth 20000 in
set_option maxHeartbeats 1000000 in
theorem clone_bytes (w : World) (b off n cap : Nat) (B : List Int) (h : w.rangeAt b off (B.map (Value.int .u8))) (hB : B.length = n) (hl : n < 1000000) :
    Calls Tryd.prog 53 #[.slice (some ⟨b, off, none⟩) n cap] w fun e w' => ∃ v', e = .returned v' ∧ w'.ownsRow 0 5 1 v' n (B.map (Value.int .u8)) ∧ Below w.heap.size w w' ∧ ∀ k, v'.ownBlock = some k → w.heap.size ≤ k := by
  have HB : Box ((0 + n) * 1 ≤ 140737488355328) := ⟨by omega⟩
  have HN : Box ((B.map (Value.int .u8)).length = n * 1) := ⟨by simp [hB]⟩
  have HO : Box (∀ u ∈ B.map (Value.int .u8), u.oneCell' = true) := ⟨ints_oneCell _ _⟩
  have HC : Box (∀ j u, (B.map (Value.int .u8))[j]? = some u → w.cell? ((⟨b, off, none⟩ : Addr).add j) = some u) := ⟨fun j u hj => by rw [Addr.add_mid]; exact h j u hj⟩
  have hq : ∀ x, (binOp .eql 64 (.slice (some ⟨b, off, none⟩) n cap) (.slice none 0 0)).run Tryd.prog x = .ok (.bool false) x := fun x => eql_nil x 64 _ _ _ _ Tryd.underlying64
  clear h hl hB
  go_enter Tryd.func53, Tryd.ntmps53
  go_wp2_with (at_builtin; refine wpList_app2 rfl _ _ 64 rfl 5 1 1 (.int .u8 0) Tryd.underlying64 info5 rfl (by decide) _ 0 [] rfl (own_empty w _ 1) ⟨b, off, none⟩ n cap (B.map (Value.int .u8)) rfl HN.out (fun j u hj => cell_al _ (HC.out j u hj)) HO.out HB.out (by decide) ?_; intro v' w2 hown hgr hblk; have HX : Box (_ ∧ _ ∧ _) := ⟨hown, hgr, hblk⟩; clear hown hgr hblk)
  go_ret
  obtain ⟨x1, x2, x3⟩ := HX.out
  rw [Nat.zero_add] at x1
  have hz : ∀ k, Value.ownBlock (.slice (some ⟨w.heap.size, 0, none⟩) 0 0) = some k → w.heap.size ≤ k := fun k hk => by simp [Value.ownBlock] at hk; omega
  exact ⟨_, rfl, x1, below_grown x2 hz, fun k hk => (x3 k hk).elim (hz k) (fun h => by simp at h; omega)⟩
end Go.Proofs.YtipdaaajnbjnjaaDoor.Disk
namespace Go.Proofs.YtipdaaajnbjnjaaDoor.Disk.Plain
set_option maxRecDepth 100000
end Go.Proofs.YtipdaaajnbjnjaaDoor.Disk.Plain
namespace Go.Proofs.YtipdaaajnbjnjaaDoor.Disk
set_option maxRecDepth 100000
set_option linter.unusedVariables false
open Go.RowKit Go.Proofs.YtipdaaajnbjnjaaDoor.Plain Go.Proofs.YtipdaaajnbjnjaaDoor.Disk.Plain
/-- A disk of a call's own: all its blocks are newer than w0's. -/
structure Cx (w0 w : World) (D : Nat) (fp : Nat → Prop) (d : Dk) : Prop where
  is : Is w D fp d
  bel : Below w0.heap.size w0 w
  lo : ∀ k, fp k → w0.heap.size ≤ k
  hi : ∀ k, fp k → k < w.heap.size
/-- What follows: nothing but the disk's blocks has turned, and it has taken none of another's. -/
structure Fol (w : World) (fp : Nat → Prop) (w' : World) (fp' : Nat → Prop) : Prop where
  t : Turned fp w w'
  k : ∀ k, k < w.heap.size → ¬ fp k → ¬ fp' k
/-- A row of bytes that is not the disk's. -/
structure Loc (w : World) (fp : Nat → Prop) (g : Nat) (B : List Int) (t : TypeId) : Prop where
  row : w.heap[g]? = some (.cells (u8s B) t (0, 0))
  no : ¬ fp g
theorem Loc.lt {w : World} {fp : Nat → Prop} {g : Nat} {B : List Int} {t : TypeId} (h : Loc w fp g B t) : g < w.heap.size := (Array.getElem?_eq_some_iff.1 h.row).1
theorem Loc.fol {w w' : World} {fp fp' : Nat → Prop} {g : Nat} {B : List Int} {t : TypeId} (h : Loc w fp g B t) (f : Fol w fp w' fp') : Loc w' fp' g B t :=
  ⟨(f.t.block g h.lt h.no).trans h.row, f.k g h.lt h.no⟩
theorem Loc.below {w w' : World} {fp : Nat → Prop} {g : Nat} {B : List Int} {t : TypeId} (h : Loc w fp g B t) (hb : Below w.heap.size w w') : Loc w' fp g B t := ⟨(hb.block g h.lt).trans h.row, h.no⟩
theorem Loc.bytes {w : World} {fp : Nat → Prop} {g : Nat} {B : List Int} {t : TypeId} (h : Loc w fp g B t) (hB : Byt B) (n : Nat) (hn : B.length = n) : Bytes w (some ⟨g, 0, none⟩) n B := by
  subst hn
  exact bytes_of_row hB h.row
theorem Cx.step {w0 w w' : World} {D : Nat} {fp : Nat → Prop} {d : Dk} (h : Cx w0 w D fp d) (hb : Below w.heap.size w w') : Cx w0 w' D fp d :=
  ⟨h.is.below hb, below_to h.bel hb, h.lo, fun k hk => Nat.lt_of_lt_of_le (h.hi k hk) hb.size⟩
theorem Cx.nx {w0 w w' : World} {D : Nat} {fp : Nat → Prop} {d d' : Dk} (h : Cx w0 w D fp d) (n : Nx D fp w w' d') : ∃ fp', Cx w0 w' D fp' d' ∧ Fol w fp w' fp' := by
  obtain ⟨f, i, t, s⟩ := n
  refine ⟨_, ⟨i.cut, h.bel.trans (t.below h.bel.size h.lo), fun k hk => ?_, fun k hk => hk.2⟩, ⟨t, fun k hk hn hf => (s k hf.1).elim hn (fun h => by omega)⟩⟩
  rcases s k hk.1 with h1 | h1
  · exact h.lo k h1
  · exact Nat.le_trans h.bel.size h1
theorem Cx.set {w0 w : World} {D : Nat} {fp : Nat → Prop} {d : Dk} (h : Cx w0 w D fp d) (g i : Nat) (v : Value) (hn : ¬ fp g) (hg : w0.heap.size ≤ g) : Cx w0 (w.setCell ⟨g, i, none⟩ v) D fp d :=
  ⟨h.is.same (fun k hk _ => heap_setCell_other w ⟨g, i, none⟩ k _ (fun e => hn (by have e' : g = k := e.symm; rw [e']; exact hk))), below_set h.bel hg v, h.lo, fun k hk => by simpa using h.hi k hk⟩
theorem Loc.set {w : World} {fp : Nat → Prop} {g : Nat} {B : List Int} {t : TypeId} (h : Loc w fp g B t) (i : Nat) (z : Int) : Loc (w.setCell ⟨g, i, none⟩ (.int .u8 z)) fp g (B.set i z) t :=
  ⟨by rw [heap_setCell_same w g i _ t _ h.row, u8s_set], h.no⟩
theorem Loc.other {w : World} {fp : Nat → Prop} {g g' : Nat} {B : List Int} {t : TypeId} (h : Loc w fp g B t) (i : Nat) (v : Value) (hne : g ≠ g') : Loc (w.setCell ⟨g', i, none⟩ v) fp g B t :=
  ⟨by rw [heap_setCell_other w ⟨g', i, none⟩ g _ hne]; exact h.row, h.no⟩
theorem Loc.new {w : World} {fp : Nat → Prop} (hf : ∀ k, fp k → k < w.heap.size) (B : List Int) (t : TypeId) : Loc (w.alloc (.cells (u8s B) t)) fp w.heap.size B t := ⟨al_at rfl, fun h => by have := hf _ h; omega⟩
theorem cx_new {w w' : World} {n : Nat} (i : Is w' (w.heap.size + 1) (fun k => w.heap.size ≤ k) (dk0 n)) (b : Below w.heap.size w w') : ∃ fp, Cx w w' (w.heap.size + 1) fp (dk0 n) :=
  ⟨_, i.cut, b, fun k hk => hk.1, fun k hk => hk.2⟩
theorem new_cx (w : World) (n : Nat) (hn : 1 ≤ n ∧ n ≤ 4096) : Calls Tryd.prog 9 #[.int .i64 (n : Int)] w fun e w' => e = .returned (.tuple #[.pointer (some ⟨w.heap.size + 1, 0, none⟩), .int .i64 0]) ∧ ∃ fp, Cx w w' (w.heap.size + 1) fp (dk0 n) :=
  (new_any w n hn).mono fun e w' ⟨h1, h2, h3⟩ => ⟨h1, cx_new h2 h3⟩
theorem write_cx {w0 w : World} {D : Nat} {fp : Nat → Prop} {d : Dk} (C : Cx w0 w D fp d) (i : Nat) (a : Option Addr) (cap : Nat) (B : List Int) (hB : Bytes w a 192 B) (hap : ∀ ad, a = some ad → ¬ fp ad.block) (hd : d.down = false) (hi : i < d.n) (hst : d.st = true → d.left ≠ 0) (hl : 0 ≤ d.left ∧ d.left ≤ 9223372036854775807) (ho : d.ops.length < 1000000) (hu : d.uw.length < 1000000) :
    Calls Tryd.prog 50 #[.pointer (some ⟨D, 0, none⟩), .int .i64 (i : Int), .slice a 192 cap] w fun e w' => e = .returned (.int .i64 0) ∧ ∃ fp', Cx w0 w' D fp' (wrOk d i B) ∧ Fol w fp w' fp' :=
  (write_ok w D fp d C.is i a cap B hB hap hd hi hst hl ho hu).mono fun e w' ⟨h1, h2⟩ => ⟨h1, C.nx h2⟩
theorem flush_cx {w0 w : World} {D : Nat} {fp : Nat → Prop} {d : Dk} (C : Cx w0 w D fp d) (hd : d.down = false) (ho : d.ops.length < 1000000) (hu : d.uw.length < 1000000) :
    Calls Tryd.prog 25 #[.pointer (some ⟨D, 0, none⟩)] w fun e w' => e = .returned (.int .i64 0) ∧ ∃ fp', Cx w0 w' D fp' (flOk d) ∧ Fol w fp w' fp' :=
  (flush_ok w D fp d C.is hd ho hu).mono fun e w' ⟨h1, h2⟩ => ⟨h1, C.nx h2⟩
theorem size_cx {w0 w : World} {D : Nat} {fp : Nat → Prop} {d : Dk} (C : Cx w0 w D fp d) : Calls Tryd.prog 31 #[.pointer (some ⟨D, 0, none⟩)] w fun e w' => e = .returned (.int .i64 (d.n : Int)) ∧ w = w' := by
  obtain ⟨P, uv, ov, h1, _⟩ := C.is
  exact size_any w D P uv ov d h1
theorem pending_cx {w0 w : World} {D : Nat} {fp : Nat → Prop} {d : Dk} (C : Cx w0 w D fp d) : Calls Tryd.prog 30 #[.pointer (some ⟨D, 0, none⟩)] w fun e w' => e = .returned (.int .i64 (d.uw.length : Int)) ∧ w = w' := by
  obtain ⟨P, uv, ov, h1, _⟩ := C.is
  exact pending_any w D P uv ov d h1
end Go.Proofs.YtipdaaajnbjnjaaDoor.Disk
namespace Go.Proofs.YtipdaaajnbjnjaaDoor.Disk.Plain
set_option maxRecDepth 100000
end Go.Proofs.YtipdaaajnbjnjaaDoor.Disk.Plain
namespace Go.Proofs.YtipdaaajnbjnjaaDoor.Disk
set_option maxRecDepth 100000
set_option linter.unusedVariables false
open Go.RowKit Go.Proofs.YtipdaaajnbjnjaaDoor.Plain Go.Proofs.YtipdaaajnbjnjaaDoor.Disk.Plain
theorem lastOf_snoc (L : List (Nat × List Int)) (x : Nat × List Int) (j : Nat) : lastOf (L ++ [x]) j = if x.1 = j then some x.2 else lastOf L j := by
  unfold lastOf
  rw [List.reverse_append]
  simp only [List.reverse_cons, List.reverse_nil, List.nil_append, List.cons_append, List.find?_cons]
  by_cases h : x.1 = j
  · simp [h]
  · have : (x.1 == j) = false := by simpa using h
    simp [this, h]
theorem snoc_ind {α : Type} {p : List α → Prop} (L : List α) (nil : p []) (snoc : ∀ L x, p L → p (L ++ [x])) : p L := by
  have : ∀ R : List α, p R.reverse := fun R => by
    induction R with
    | nil => exact nil
    | cons x R ih => rw [List.reverse_cons]; exact snoc _ _ ih
  have h := this L.reverse
  rwa [List.reverse_reverse] at h
theorem lay_get (L : List (Nat × List Int)) (pl : Nat → List Int) (j : Nat) : lay L pl j = (lastOf L j).getD (pl j) := by
  refine snoc_ind (p := fun L => lay L pl j = (lastOf L j).getD (pl j)) L rfl (fun L x ih => ?_)
  show lay (L ++ [x]) pl j = (lastOf (L ++ [x]) j).getD (pl j)
  rw [lay_snoc, lastOf_snoc, upd]
  by_cases h : j = x.1
  · rw [if_pos h, if_pos h.symm]; rfl
  · rw [if_neg h, if_neg (Ne.symm h)]; exact ih
/-- The bytes that the example writes, and its disk behind each call. -/
def b7 : List Int := z192.set 0 7
def a1 : Dk := wrOk (dk0 2) 1 b7
def a2 : Dk := rdOk a1 1
def a3 : Dk := crOk a2 []
def a4 : Dk := rdOk a3 1
end Go.Proofs.YtipdaaajnbjnjaaDoor.Disk
namespace Go.Proofs.YtipdaaajnbjnjaaDoor.Disk.Plain
set_option maxRecDepth 100000
end Go.Proofs.YtipdaaajnbjnjaaDoor.Disk.Plain
namespace Go.Proofs.YtipdaaajnbjnjaaDoor.Disk
set_option maxRecDepth 100000
set_option linter.unusedVariables false
open Go.RowKit Go.Proofs.YtipdaaajnbjnjaaDoor.Plain Go.Proofs.YtipdaaajnbjnjaaDoor.Disk.Plain
def nils (m : Nat) : List Value := List.replicate m (Value.slice none 0 0)
theorem nils_succ (m : Nat) : nils (m + 1) = Value.slice none 0 0 :: nils m := rfl
/-- Rows of bytes of a call's own: the places' bytes, so far. -/
structure Rws (w wr : World) (g n k : Nat) (pl : Nat → List Int) (L : List Value) : Prop where
  row : wr.heap[g]? = some (.cells (L ++ nils (n - k)).toArray 64 (0, 0))
  len : L.length = k
  each : ∀ i (h : i < L.length), wr.ownsRow 0 5 1 L[i] 192 ((pl i).map (Value.int .u8)) ∧ ∀ j, L[i].ownBlock = some j → g < j
  lo : w.heap.size ≤ g
  bel : Below w.heap.size w wr
theorem Rws.step {w wr wx : World} {g n k : Nat} {pl : Nat → List Int} {L : List Value} (h : Rws w wr g n k pl L) (hk : k < n) (v : Value) (hb : Below wr.heap.size wr wx) (hv : wx.ownsRow 0 5 1 v 192 ((pl k).map (Value.int .u8))) (hl : ∀ j, v.ownBlock = some j → wr.heap.size ≤ j) : Rws w (wx.setCell ⟨g, k, none⟩ v) g n (k + 1) pl (L ++ [v]) := by
  have hg : g < wr.heap.size := (Array.getElem?_eq_some_iff.1 h.row).1
  have hne : ∀ u : Value, (∀ j, u.ownBlock = some j → g < j) → ∀ j, u.ownBlock = some j → (wx.setCell ⟨g, k, none⟩ v).heap[j]? = wx.heap[j]? := fun u hu j hj => heap_setCell_other wx ⟨g, k, none⟩ j _ (fun e => by have := hu j hj; simp at e; omega)
  refine ⟨?_, by simp [h.len], fun i hi => ?_, h.lo, below_set (h.bel.trans (hb.mono h.bel.size)) h.lo v⟩
  · rw [heap_setCell_same wx g k _ _ v ((hb.block g hg).trans h.row)]
    congr 2
    rw [show n - k = n - (k + 1) + 1 by omega, nils_succ]
    simp [← h.len]
  · by_cases hik : i < L.length
    · have e : (L ++ [v])[i] = L[i] := List.getElem_append_left hik
      rw [e]
      obtain ⟨h1, h2⟩ := h.each i hik
      exact ⟨own_same (own_same h1 (fun j hj => hb.block j (h1.lt j hj).2)) (hne _ h2), h2⟩
    · have hik2 : i = L.length := by simp at hi; omega
      subst hik2
      have e : (L ++ [v])[L.length]'(by simp) = v := by simp
      rw [e, h.len]
      have h2 : ∀ j, v.ownBlock = some j → g < j := fun j hj => by have := hl j hj; omega
      exact ⟨own_same hv (hne _ h2), h2⟩
theorem infoRow : (Tryd.prog.info? 64).map (fun i => (i.zero, i.size, i.bytes)) = some (some (.slice none 0 0), 1, 24) := by kernel_rfl
theorem made_nil (n : Nat) : madeCells #[.slice none 0 0] n = (nils n).toArray := by
  unfold nils
  apply Array.ext
  · simp [size_made]
  · intro i h1 h2
    simp [madeCells]
    have : i % 1 = 0 := by omega
    simp [this]
set_option maxRecDepth 20000 in
set_option maxHeartbeats 4000000 in
theorem image_any (w : World) (D P : Nat) (uv ov : Value) (d : Dk) (h : At w D P uv ov d) :
    Calls Tryd.prog 26 #[.pointer (some ⟨D, 0, none⟩)] w fun e w' => ∃ g L, e = .returned (.slice (some ⟨g, 0, none⟩) d.n d.n) ∧ Rws w w' g d.n d.n d.pl L := by
  obtain ⟨c0, -, -, -, -, -, -⟩ := h.cells
  have hn := h.hn
  have HA : Box (At w D P uv ov d) := ⟨h⟩
  have HM : Box (24 * d.n ≤ 281474976710656 ∧ d.n ≤ 9223372036854775807) := ⟨by omega, by omega⟩
  have HE : Box (madeCells (Value.slice none 0 0).cells (d.n * 1) = (nils d.n).toArray) := ⟨by rw [Nat.mul_one]; exact made_nil d.n⟩
  have hn2 : d.n < 9223372036854775807 := by omega
  clear h hn
  go_enter Tryd.func26, Tryd.ntmps26
  go_wp2_with (refine wpList_run rfl _ _ (exec_make 73 64 _ _ rfl (.slice none 0 0) 1 24 Tryd.underlying73 infoRow d.n rfl rfl HM.out.1 HM.out.2) ?_; rw [HE.out])
  have R0 : Box (Rws w (w.alloc (.cells (nils d.n).toArray 64)) w.heap.size d.n 0 d.pl []) := ⟨⟨al_at rfl, rfl, fun i hi => by simp at hi, Nat.le_refl _, (Below.refl _ _).alloc (Nat.le_refl _) _⟩⟩
  generalize w.alloc (.cells (nils d.n).toArray 64) = w1 at R0 ⊢
  obtain ⟨g, HG⟩ : ∃ g, Box (w.heap.size = g) := ⟨_, ⟨rfl⟩⟩
  rw [HG.out] at R0 ⊢
  clear HE HM
  go_loopw [15] (fun j wr => ∃ q : Nat, q ≤ d.n ∧ j = .int .i64 q ∧ ∃ L, Box (Rws w wr g d.n q d.pl L)) (fun j _ => d.n - (intOf j).toNat)
  case atStart => exact ⟨0, by omega, rfl, [], R0⟩
  case round =>
    clear R0 c0
    obtain ⟨q, hq, rfl, L, HL⟩ := hrel
    have HA2 : Box (At wr D P uv ov d) := ⟨HA.out.below HL.out.bel⟩
    obtain ⟨c0, -, -, -, -, -, -⟩ := HA2.out.cells
    by_cases hlt : q < d.n
    · have HC : Box (Calls Tryd.prog 53 #[.slice (some ⟨P, q * 192, none⟩) 192 192] wr fun e w' => ∃ v', e = .returned v' ∧ w'.ownsRow 0 5 1 v' 192 ((d.pl q).map (Value.int .u8)) ∧ Below wr.heap.size wr w' ∧ ∀ k, v'.ownBlock = some k → wr.heap.size ≤ k) := ⟨by
        obtain ⟨cs, hP, hPs⟩ := HA2.out.hp
        exact clone_bytes wr P (q * 192) 192 192 (d.pl q) (pls_range hP hPs hlt (HA2.out.hpl q).1) (HA2.out.hpl q).1 (by omega)⟩
      have hcl : ∀ wx, Below wr.heap.size wr wx → ∃ u, wx.cell? ⟨g, q, none⟩ = some u ∧ wx.frozen? ⟨g, q, none⟩ = false := fun wx hb => by
        have hr := (hb.block g (Array.getElem?_eq_some_iff.1 HL.out.row).1).trans HL.out.row
        refine ⟨.slice none 0 0, ?_, frozen_of_row wx g q _ _ hr⟩
        rw [cell_of_row _ _ _ _ _ _ hr]
        have hlen := HL.out.len
        simp [← hlen, nils, show 0 < d.n - L.length by omega]
      have HCl : Box _ := ⟨hcl⟩
      clear hcl
      go_wp2_with (go_at_call 53; refine HC.out.mono ?_; rintro e wx ⟨v', rfl, hx1, hx2, hx3⟩; obtain ⟨va, vc, rfl⟩ := own_form2 hx1; have HX : Box _ := ⟨HL.out.step hlt _ hx2 hx1 hx3⟩; obtain ⟨u0, cu, fu⟩ := HCl.out wx hx2; clear hx1 hx2 hx3)
      exact ⟨⟨q + 1, by omega, by simp, _, HX⟩, by simp [intOf]; omega⟩
    · obtain rfl : q = d.n := by omega
      go_wp2
      go_ret
      exact ⟨g, L, rfl, HL.out⟩
end Go.Proofs.YtipdaaajnbjnjaaDoor.Disk
