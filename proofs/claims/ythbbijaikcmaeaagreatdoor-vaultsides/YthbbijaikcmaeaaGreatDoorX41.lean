/-
  Memory of a law's own beside a vault; rows of bytes that are held against what a vault reads: the law's reads. And what follows it.
-/
import Derived.Test.YthbbijaikcmaeaaGreatDoorX38
import Derived.Test.YthbbijaikcmaeaaGreatDoorX40
import Derived.Test.YthbbijaikcmaeaaGreatDoorX10
import Derived.Test.YthbbijaikcmaeaaGreatDoorX11
import Derived.Test.YthbbijaikcmaeaaGreatDoorX06
namespace Go.Proofs.YthbbijaikcmaeaaGreatDoor
set_option maxRecDepth 100000
set_option linter.unusedVariables false
set_option maxRecDepth 100000
open Go.RowKit Go.Shelf Plain Go.Proofs.YthbbijaikcmaeaaGreatDoor.Shap.Plain
attribute [local go_sem] Oper.semAt_some
structure Mn (M : Nat → Prop) (w0 w : World) (V : Nat) (fp : Nat → Prop) : Prop where
  lt : ∀ k, M k → k < w.heap.size
  nf : ∀ k, M k → ¬ fp k
  nv : ∀ k, M k → k ≠ V
  lo : ∀ k, M k → w0.heap.size ≤ k
theorem Mn.fw {M : Nat → Prop} {w0 w w' : World} {V : Nat} {fp fp' : Nat → Prop} (h : Mn M w0 w V fp) (f : Fw (fun k => k = V) w w' fp fp') : Mn M w0 w' V fp' ∧ ∀ k, M k → w'.heap[k]? = w.heap[k]? :=
  ⟨⟨fun k hk => Nat.lt_of_lt_of_le (h.lt k hk) f.size, fun k hk => f.k k (h.lt k hk) (h.nf k hk), h.nv, h.lo⟩, fun k hk => f.block (h.lt k hk) (h.nf k hk) (h.nv k hk)⟩
theorem Mn.below {M : Nat → Prop} {w0 w w' : World} {V : Nat} {fp : Nat → Prop} (h : Mn M w0 w V fp) (hb : Below w.heap.size w w') (hi : ∀ k, fp k → k < w.heap.size) (hV : V < w.heap.size) (h0 : w0.heap.size ≤ w.heap.size) : Mn (fun k => M k ∨ w.heap.size ≤ k ∧ k < w'.heap.size) w0 w' V fp := by
  refine ⟨fun k hk => ?_, fun k hk => ?_, fun k hk => ?_, fun k hk => ?_⟩
  · rcases hk with hk | hk
    · exact Nat.lt_of_lt_of_le (h.lt k hk) hb.size
    · exact hk.2
  · rcases hk with hk | hk
    · exact h.nf k hk
    · exact fun hf => by have := hi k hf; omega
  · rcases hk with hk | hk
    · exact h.nv k hk
    · omega
  · rcases hk with hk | hk
    · exact h.lo k hk
    · omega
theorem Mn.set {M : Nat → Prop} {w0 w w' : World} {V G : Nat} {fp : Nat → Prop} (h : Mn M w0 w V fp) (hb : But G w w') : Mn M w0 w' V fp := ⟨fun k hk => Nat.lt_of_lt_of_le (h.lt k hk) hb.size, h.nf, h.nv, h.lo⟩
theorem bytes_same {w w' : World} {a : Option Addr} {len : Nat} {L : List Int} (h : Bytes w a len L) (hs : ∀ ad, a = some ad → w'.heap[ad.block]? = w.heap[ad.block]?) (hz : w.heap.size ≤ w'.heap.size) : Bytes w' a len L := by
  refine ⟨h.1, h.2.1, fun hp => ?_⟩
  obtain ⟨b, o, e, hlt, hc⟩ := h.2.2 hp
  refine ⟨b, o, e, Nat.lt_of_lt_of_le hlt hz, fun i hi => ?_⟩
  have hq : w'.cell? ⟨b, o + i, none⟩ = w.cell? ⟨b, o + i, none⟩ := World.cell?_of_block (hs ⟨b, o, none⟩ e)
  rw [hq]
  exact hc i hi
def nwc (A : List (Option Addr × Nat)) : Array Value := (A.map (fun x => Value.slice x.1 160 x.2)).toArray
structure Nw (w : World) (M : Nat → Prop) (g : Nat) (A : List (Option Addr × Nat)) (F : Nat → List Int) : Prop where
  row : w.heap[g]? = some (.cells (nwc A) 38 (0, 0))
  len : A.length = 20
  mg : M g
  byt : ∀ i (h : i < A.length), Bytes w A[i].1 160 (F i)
  own : ∀ i (h : i < A.length), ∀ ad, A[i].1 = some ad → M ad.block
  typ : ∀ i (h : i < A.length), ∀ ad, A[i].1 = some ad → ∃ cs, w.heap[ad.block]? = some (.cells cs 5 (0, 0))
theorem Nw.same {w w' : World} {M : Nat → Prop} {g : Nat} {A : List (Option Addr × Nat)} {F : Nat → List Int} (h : Nw w M g A F) (hs : ∀ k, M k → w'.heap[k]? = w.heap[k]?) (hz : w.heap.size ≤ w'.heap.size) : Nw w' M g A F :=
  ⟨(hs g h.mg).trans h.row, h.len, h.mg, fun i hi => bytes_same (h.byt i hi) (fun ad e => hs _ (h.own i hi ad e)) hz, h.own, fun i hi ad e => by rw [hs _ (h.own i hi ad e)]; exact h.typ i hi ad e⟩
theorem Nw.more {w : World} {M M' : Nat → Prop} {g : Nat} {A : List (Option Addr × Nat)} {F : Nat → List Int} (h : Nw w M g A F) (hs : ∀ k, M k → M' k) : Nw w M' g A F :=
  ⟨h.row, h.len, hs _ h.mg, h.byt, fun i hi ad e => hs _ (h.own i hi ad e), h.typ⟩
theorem nwc_set (A : List (Option Addr × Nat)) (i : Nat) (x : Option Addr × Nat) : (nwc A).setIfInBounds i (.slice x.1 160 x.2) = nwc (A.set i x) := by
  unfold nwc
  rw [List.setIfInBounds_toArray, List.map_set]
theorem Nw.put {w : World} {M : Nat → Prop} {g : Nat} {A : List (Option Addr × Nat)} {F : Nat → List Int} (h : Nw w M g A F) (i : Nat) (a : Option Addr) (c : Nat) (L : List Int) (hB : Bytes w a 160 L) (ho : ∀ ad, a = some ad → M ad.block ∧ ∃ cs, w.heap[ad.block]? = some (.cells cs 5 (0, 0))) :
    Nw (w.setCell ⟨g, i, none⟩ (.slice a 160 c)) M g (A.set i (a, c)) (fun j => if j = i then L else F j) := by
  have hg : ∀ (b : Nat), (∃ cs, w.heap[b]? = some (.cells cs 5 (0, 0))) → b ≠ g := by
    rintro b ⟨cs, hb⟩ rfl
    rw [h.row] at hb
    simp only [Option.some.injEq, Obj.cells.injEq] at hb
    exact absurd hb.2.1 (by decide)
  have hk : ∀ (b : Nat), (∃ cs, w.heap[b]? = some (.cells cs 5 (0, 0))) → (w.setCell ⟨g, i, none⟩ (.slice a 160 c)).heap[b]? = w.heap[b]? := fun b hb => heap_setCell_other w ⟨g, i, none⟩ _ _ (hg b hb)
  refine ⟨?_, by rw [List.length_set]; exact h.len, h.mg, fun j hj => ?_, fun j hj ad e => ?_, fun j hj ad e => ?_⟩
  · rw [heap_setCell_same w g i _ _ _ h.row, ← nwc_set A i (a, c)]
  · rw [List.getElem_set]
    by_cases hji : j = i
    · rw [if_pos hji.symm, if_pos hji]
      exact bytes_same hB (fun ad e => hk _ (ho ad e).2) (by simp)
    · rw [if_neg (fun e => hji e.symm), if_neg hji]
      rw [List.length_set] at hj
      exact bytes_same (h.byt j hj) (fun ad e => hk _ (h.typ j hj ad e)) (by simp)
  · rw [List.getElem_set] at e
    split at e
    · exact (ho ad e).1
    · rw [List.length_set] at hj
      exact h.own j hj ad e
  · rw [List.getElem_set] at e
    split at e
    · rw [hk _ (ho ad e).2]; exact (ho ad e).2
    · rw [List.length_set] at hj
      rw [hk _ (h.typ j hj ad e)]
      exact h.typ j hj ad e
theorem exec_idxNw {op : Oper} {ρ : Operand → Value} {w' : World} (x y : Operand) (ho : op.op = .indexAddr 37 x y) (b len cap j : Nat) (hx : ρ x = .slice (some ⟨b, 0, none⟩) len cap) (hy : ρ y = .int .i64 (j : Int)) (hj : j < len) :
    (execOp ρ op).run Tryz.prog w' = .ok (.value (.pointer (some ⟨b, 0 + j * 1, none⟩))) w' := Rec.exec_idxT 37 38 Tryz.underlying37 1 (by kernel_rfl) x y ho b 0 len cap j hx hy hj
structure Rds (w0 w : World) (V D : Nat) (v : Vt) (sa : Option Addr) (sc : Nat) (d : Disk.Dk) (f : Nat → List Int) (fp : Nat → Prop) (k : Nat) (wr : World) (fp' : Nat → Prop) (d' : Disk.Dk) : Prop where
  vc : VC w0 wr V D fp' v d' sa sc
  good : Good v.key v.n d' f v.top
  sm : Sm d d'
  ops : d'.ops.length ≤ d.ops.length + 6 * k
  fw : Fw No w wr fp fp'
theorem Rds.step {w0 w wr : World} {V D : Nat} {v : Vt} {sa : Option Addr} {sc : Nat} {d d' d2 : Disk.Dk} {f : Nat → List Int} {fp fp' fp2 : Nat → Prop} {k j : Nat} {w2 : World} (h : Rds w0 w V D v sa sc d f fp k wr fp' d') (hj : readM (Yk v.key) Xd v.n j (topL v.n) d' v.top = (d2, 0, f j)) (hg : Good v.key v.n d2 f v.top) (hv : VC w0 w2 V D fp2 v d2 sa sc) (hf : Fw No wr w2 fp' fp2) : Rds w0 w V D v sa sc d f fp (k + 1) w2 fp2 d2 := by
  have h1 := sm_read v.key v.n j (topL v.n) d' v.top
  have h2 := (gw_read v.key v.n j (topL v.n) d' v.top).ops
  rw [hj] at h1 h2
  have h3 := (topL_bd v.n h.vc.ok.lo h.vc.ok.hi).2.1
  have h4 := h.ops
  simp only at h2
  exact ⟨hv, hg, h.sm.trans h1, by omega, h.fw.trans hf⟩
end Go.Proofs.YthbbijaikcmaeaaGreatDoor
namespace Go.Proofs.YthbbijaikcmaeaaGreatDoor
set_option maxRecDepth 100000
set_option linter.unusedVariables false
open Go.RowKit Go.Shelf Plain Go.Proofs.YthbbijaikcmaeaaGreatDoor.Shap.Plain
theorem pl_fl (d : Disk.Dk) (q : Nat) : (Disk.flOk d).pl q = Disk.lat d q := Disk.lat_fl d q
theorem image_r {w0 w : World} {D : Nat} {fp : Nat → Prop} {d : Disk.Dk} (C : Disk.Cx w0 w D fp d) :
    Calls Tryz.prog 16 #[.pointer (some ⟨D, 0, none⟩)] w fun e w' => ∃ g, e = .returned (.slice (some ⟨g, 0, none⟩) d.n d.n) ∧ Below w.heap.size w w' ∧ ∀ x : World, (∀ c, w.heap.size ≤ c → c < w'.heap.size → x.heap[c]? = w'.heap[c]?) → ∀ q, q < d.n → ∃ a c, x.cell? ⟨g, q, none⟩ = some (.slice a 192 c) ∧ Bytes x a 192 (d.pl q) := by
  obtain ⟨P, uv, ov, h1, _⟩ := C.is
  have hpl := h1.hpl
  refine (Disk.image_any w D P uv ov d h1).mono ?_
  rintro e w' ⟨g, L, rfl, h⟩
  have hrow := h.row
  rw [Nat.sub_self] at hrow
  have hnil : Disk.nils 0 = [] := rfl
  rw [hnil, List.append_nil] at hrow
  refine ⟨g, rfl, h.bel, fun x hx q hq => ?_⟩
  have hq' : q < L.length := by rw [h.len]; exact hq
  have ho := (h.each q hq').1
  have hb := (h.each q hq').2
  have hlo := h.lo
  have ho' : x.ownsRow 0 5 1 L[q] 192 ((d.pl q).map (Value.int .u8)) := Rec.own_same ho (fun k hk => hx k (by have := hb k hk; omega) (ho.lt k hk).2)
  obtain ⟨a, c, hv⟩ := Rec.own_form2 ho'
  rw [hv] at ho'
  refine ⟨a, c, ?_, own_bytes ho' (hpl q).2⟩
  rw [cell_of_row _ _ _ _ _ _ ((hx g hlo (Array.getElem?_eq_some_iff.1 hrow).1).trans hrow), List.getElem?_toArray, List.getElem?_eq_getElem hq', hv]
theorem cell_lt {w : World} {b o : Nat} {v : Value} (h : w.cell? ⟨b, o, none⟩ = some v) : b < w.heap.size := by
  by_cases hb : b < w.heap.size
  · exact hb
  · have : w.heap[b]? = none := Array.getElem?_eq_none (by omega)
    simp [World.cell?, this] at h
end Go.Proofs.YthbbijaikcmaeaaGreatDoor
namespace Go.Proofs.YthbbijaikcmaeaaGreatDoor
set_option maxRecDepth 100000
set_option linter.unusedVariables false
open Go.RowKit Go.Shelf Plain Go.Proofs.YthbbijaikcmaeaaGreatDoor.Shap.Plain
def sdAt (ch : Nat → Bool) (side : Nat → Int) : Nat → Nat → Int
  | 0 => side
  | k + 1 => fun y => if ch k = true ∧ y = k / 2 then ((k % 2 : Nat) : Int) else sdAt ch side k y
theorem sdAt_eq (ch : Nat → Bool) (side : Nat → Int) : ∀ k y, sdAt ch side k y = if 2 * y + 1 < k ∧ ch (2 * y + 1) = true then 1 else if 2 * y < k ∧ ch (2 * y) = true then 0 else side y
  | 0, y => by simp [sdAt]
  | k + 1, y => by
    have e0 : sdAt ch side (k + 1) y = if ch k = true ∧ y = k / 2 then ((k % 2 : Nat) : Int) else sdAt ch side k y := rfl
    rw [e0, sdAt_eq ch side k y]
    by_cases hc : ch k = true
    · by_cases hy : y = k / 2
      · rw [if_pos ⟨hc, hy⟩]
        rcases Nat.mod_two_eq_zero_or_one k with h | h
        · have e : k = 2 * y := by omega
          rw [if_neg (by omega), if_pos ⟨by omega, by rw [← e]; exact hc⟩, h]
          rfl
        · have e : k = 2 * y + 1 := by omega
          rw [if_pos ⟨by omega, by rw [← e]; exact hc⟩, h]
          rfl
      · rw [if_neg (fun h => hy h.2)]
        have a1 : (2 * y + 1 < k + 1) ↔ (2 * y + 1 < k) := by omega
        have a2 : (2 * y < k + 1) ↔ (2 * y < k) := by omega
        simp only [a1, a2]
    · rw [if_neg (fun h => hc h.1)]
      by_cases e1 : 2 * y + 1 = k
      · rw [if_neg (c := 2 * y + 1 < k ∧ _) (by omega), if_neg (c := 2 * y + 1 < k + 1 ∧ _) (by rw [e1]; exact fun h => hc h.2)]
        have a2 : (2 * y < k + 1) ↔ (2 * y < k) := by omega
        simp only [a2]
      · have a1 : (2 * y + 1 < k + 1) ↔ (2 * y + 1 < k) := by omega
        by_cases e2 : 2 * y = k
        · rw [if_neg (c := 2 * y + 1 < k ∧ _) (by omega), if_neg (c := 2 * y + 1 < k + 1 ∧ _) (by omega), if_neg (c := 2 * y < k ∧ _) (by omega), if_neg (c := 2 * y < k + 1 ∧ _) (by rw [e2]; exact fun h => hc h.2)]
        · have a2 : (2 * y < k + 1) ↔ (2 * y < k) := by omega
          simp only [a1, a2]
structure Sd (K : List Int) (d : Disk.Dk) (nx : Int) (top : Rf) (side : Nat → Int) : Prop where
  is : ∃ f Kk, Cert (Yk K) 6 (topL 6) (Disk.lat d) f Kk ∧ Kk (topL 6) 0 = top ∧ (∀ l i, l ≤ topL 6 → i < wd 6 l → side (itm 6 l i) = if (Kk l i).s = 0 then -1 else (sd (Kk l i) : Int))
  up : Up d
  uw : d.uw = []
  far : ∀ y, 9 ≤ y → side y = -1
  old : ∀ q, num (Disk.lat d q) 0 8 < nx
  nx : 1 ≤ nx
theorem Sd.okr {K : List Int} {d : Disk.Dk} {nx : Int} {top : Rf} {side : Nat → Int} (h : Sd K d nx top side) : OkR top := by
  obtain ⟨f, Kk, c, e, _⟩ := h.is
  rw [← e]
  exact c.okr _ _
theorem off6 : off 6 (topL 6 + 1) = 9 := by decide
theorem itm6 (l i : Nat) (hl : l ≤ topL 6) (hi : i < wd 6 l) : itm 6 l i < 9 := by
  have := itm_lt 6 (topL 6) l i hl hi
  rw [off6] at this
  exact this
def chg (d d' : Disk.Dk) (q : Nat) : Bool := !decide (Disk.lat d q = Disk.lat d' q)
theorem chg_true {d d' : Disk.Dk} {q : Nat} : chg d d' q = true ↔ Disk.lat d q ≠ Disk.lat d' q := by simp [chg]
theorem sides_step {K : List Int} {d : Disk.Dk} {nx : Int} {top : Rf} {side : Nat → Int} (h : Sd K d nx top side) (L : List (Int × List Int)) (hL : ∀ x ∈ L, x.2.length = 160 ∧ Byt x.2 ∧ 0 ≤ x.1 ∧ x.1 < ((6 : Nat) : Int)) (hlim : nx + 9 ≤ 1099511627776) :
    ∃ d' nx' R, updM (Yk K) Xd 6 (topL 6) 1099511627776 L d nx top = (d', nx', 0, R) ∧ nx ≤ nx' ∧ nx' ≤ nx + 9 ∧ Up d' ∧ (∀ q, chg d d' q = true → q < 18 ∧ side (q / 2) ≠ ((q % 2 : Nat) : Int)) ∧ Sd K (Disk.flOk d') nx' R (sdAt (chg d d') side 40) := by
  obtain ⟨f, Kk, c1, c2, hsd⟩ := h.is
  by_cases hne : L = []
  · subst hne
    have e : updM (Yk K) Xd 6 (topL 6) 1099511627776 [] d nx top = (d, nx, 0, top) := by simp [updM]
    have hc : ∀ q, chg d d q = false := fun q => by simp [chg]
    have hs : sdAt (chg d d) side 40 = side := by
      funext y
      rw [sdAt_eq]
      simp [hc]
    refine ⟨d, nx, top, e, by omega, by omega, h.up, fun q hq => (by rw [hc q] at hq; cases hq), ?_⟩
    rw [hs]
    exact ⟨⟨f, Kk, c1.same (fun l i _ _ _ => Disk.lat_fl d _), c2, hsd⟩, h.up, rfl, h.far, fun q => by rw [Disk.lat_fl]; exact h.old q, h.nx⟩
  · have hle := len_its (lastB L) 6 (topL 6) (off 6 (topL 6 + 1))
    rw [off6] at hle
    have hnx := h.nx
    obtain ⟨d', e, u, hnew, hold, g1, g2⟩ := updM_ok (Y := Yk K) (sound_Xd (2 * off 6 (topL 6 + 1))) (Nat.le_refl _) (topL_one 6 (by omega) (by omega)) L hL hne nx 1099511627776 hnx (by omega) (by rw [off6]; omega) d h.up c1
    rw [c2] at e
    obtain ⟨its, hits⟩ : ∃ I, itsTo (lastB L) 6 (topL 6) (off 6 (topL 6 + 1)) = I := ⟨_, rfl⟩
    obtain ⟨ver, hver⟩ : ∃ v, verOf its nx = v := ⟨_, rfl⟩
    rw [hits] at hnew g1 e
    rw [hver] at hnew g1 e
    have hle2 : its.length ≤ 9 := by rw [← hits, off6]; exact hle
    have hv : ∀ l i, l ≤ topL 6 → wrt (lastB L) 6 l i = true → nx ≤ ver l i ∧ ver l i < nx + (its.length : Int) := fun l i hl hw => by
      have hm : (l, i) ∈ its := by rw [← hits]; exact (itsTo_mem (lastB L) 6 (topL 6) l i).2 ⟨hl, hw⟩
      have := List.idxOf_lt_length_of_mem hm
      rw [← hver]
      unfold verOf
      omega
    have hv2 : ∀ l i, 1 ≤ ver l i ∧ ver l i ≤ 9223372036854775807 := fun l i => by rw [← hver]; exact verOf_bd its nx hnx (by omega) l i
    have hb := fun l i => body_ok (Y := Yk K) (n := 6) (T := topL 6) (rd := Disk.lat d') g1.okr g1.okf l i
    have hnum : ∀ l i, l ≤ topL 6 → wrt (lastB L) 6 l i = true → num (Disk.lat d' (np 6 Kk l i)) 0 8 = ver l i := fun l i hl hw => by
      rw [hnew l i hl hw]
      exact Seal.sl_num K (np 6 Kk l i : Int) (ver l i) _ 160 (hb l i).1 (by omega) ⟨by have := (hv2 l i).1; omega, by have := (hv2 l i).2; omega⟩
    have hchg : ∀ q, chg d d' q = true ↔ ∃ l i, l ≤ topL 6 ∧ wrt (lastB L) 6 l i = true ∧ q = np 6 Kk l i := fun q => by
      rw [chg_true]
      constructor
      · intro hq
        refine Classical.byContradiction fun hno => hq (hold q (fun l i hl hw e => hno ⟨l, i, hl, hw, e⟩)).symm
      · rintro ⟨l, i, hl, hw, rfl⟩ e
        have h1 := hnum l i hl hw
        have h2 := h.old (np 6 Kk l i)
        rw [e, h1] at h2
        have := (hv l i hl hw).1
        omega
    have hnp : ∀ l i, l ≤ topL 6 → i < wd 6 l → np 6 Kk l i / 2 = itm 6 l i ∧ np 6 Kk l i % 2 = ns (Kk l i) := fun l i hl hi => by
      have := ns_lt (Kk l i)
      unfold np
      omega
    refine ⟨d', _, _, e, by omega, by omega, u, fun q hq => ?_, ?_⟩
    · obtain ⟨l, i, hl, hw, rfl⟩ := (hchg q).1 hq
      have hi := wrt_lt (lastB L) 6 l i hw
      obtain ⟨n1, n2⟩ := hnp l i hl hi
      have h9 := itm6 l i hl hi
      refine ⟨by omega, ?_⟩
      rw [n1, n2, hsd l i hl hi]
      unfold ns
      have := sd_lt (Kk l i)
      split <;> omega
    · refine ⟨⟨_, _, g1.same (fun l i _ _ _ => Disk.lat_fl d' _), rfl, fun l i hl hi => ?_⟩, u, rfl, fun y hy => ?_, fun q => ?_, by omega⟩
      · have h9 := itm6 l i hl hi
        rw [sdAt_eq]
        cases hw : wrt (lastB L) 6 l i with
        | true =>
          rw [newK_yes (Yk K) 6 Kk f (lastB L) ver l i hw, if_neg (mkR_s (hv2 l i).1), mkR_sd]
          have c0 : ∀ z, z < 2 → (chg d d' (2 * itm 6 l i + z) = true ↔ z = ns (Kk l i)) := fun z hz => by
            rw [hchg]
            constructor
            · rintro ⟨l', i', hl', hw', e'⟩
              have hi' := wrt_lt (lastB L) 6 l' i' hw'
              have h1 := ns_lt (Kk l' i')
              unfold np at e'
              obtain ⟨rfl, rfl⟩ := itm_inj 6 l l' i i' hi hi' (by omega)
              omega
            · rintro rfl
              exact ⟨l, i, hl, hw, rfl⟩
          have k1 := c0 1 (by omega)
          have k0 := c0 0 (by omega)
          rw [Nat.add_zero] at k0
          have hns := ns_lt (Kk l i)
          by_cases h1 : ns (Kk l i) = 1
          · rw [if_pos ⟨by omega, k1.2 h1.symm⟩, h1]; rfl
          · have h0 : ns (Kk l i) = 0 := by omega
            rw [if_neg (fun hh => h1 (k1.1 hh.2).symm), if_pos ⟨by omega, k0.2 h0.symm⟩, h0]; rfl
        | false =>
          rw [newK_no (Yk K) 6 Kk (lastB L) ver l i hw, ← hsd l i hl hi]
          have c0 : ∀ z, z < 2 → ¬ chg d d' (2 * itm 6 l i + z) = true := fun z hz hc => by
            obtain ⟨l', i', hl', hw', e'⟩ := (hchg _).1 hc
            have hi' := wrt_lt (lastB L) 6 l' i' hw'
            have h1 := ns_lt (Kk l' i')
            unfold np at e'
            obtain ⟨rfl, rfl⟩ := itm_inj 6 l l' i i' hi hi' (by omega)
            rw [hw] at hw'
            cases hw'
          have k0 := c0 0 (by omega)
          rw [Nat.add_zero] at k0
          rw [if_neg (fun hh => c0 1 (by omega) hh.2), if_neg (fun hh => k0 hh.2)]
      · rw [sdAt_eq]
        have c0 : ∀ q, 18 ≤ q → ¬ chg d d' q = true := fun q hq hc => by
          obtain ⟨l', i', hl', hw', rfl⟩ := (hchg _).1 hc
          have hi' := wrt_lt (lastB L) 6 l' i' hw'
          have := itm6 l' i' hl' hi'
          have := ns_lt (Kk l' i')
          unfold np at hq
          omega
        rw [if_neg (fun hh => c0 _ (by omega) hh.2), if_neg (fun hh => c0 _ (by omega) hh.2)]
        exact h.far y hy
      · rw [Disk.lat_fl]
        by_cases hq : chg d d' q = true
        · obtain ⟨l, i, hl, hw, rfl⟩ := (hchg q).1 hq
          rw [hnum l i hl hw]
          exact (hv l i hl hw).2
        · have e1 : Disk.lat d q = Disk.lat d' q := Classical.byContradiction fun hh => hq (chg_true.2 hh)
          rw [← e1]
          have := h.old q
          omega
theorem num_zero : num Disk.z192 0 8 = 0 := by decide +kernel
theorem sd_new (K : List Int) (d : Disk.Dk) (hu : Up d) (h0 : d.uw = []) (hz : ∀ q, Disk.lat d q = Disk.z192) : Sd K d 1 zr (fun _ => -1) :=
  ⟨⟨_, _, cert_new _ _ _ _, rfl, fun l i _ _ => rfl⟩, hu, h0, fun _ _ => rfl, fun q => by rw [hz q, num_zero]; decide, by decide⟩
end Go.Proofs.YthbbijaikcmaeaaGreatDoor
namespace Go.Proofs.YthbbijaikcmaeaaGreatDoor
set_option maxRecDepth 100000
set_option linter.unusedVariables false
open Go.RowKit Go.Shelf Plain Go.Proofs.YthbbijaikcmaeaaGreatDoor.Shap.Plain
structure Ni (x3 wr : World) (g k : Nat) (A : List (Option Addr × Nat)) : Prop where
  row : wr.heap[g]? = some (.cells (A.map (fun x => Value.slice x.1 160 x.2) ++ Disk.nils (20 - k)).toArray 38 (0, 0))
  len : A.length = k
  byt : ∀ i (h : i < A.length), Bytes wr A[i].1 160 y160
  own : ∀ i (h : i < A.length), ∀ ad, A[i].1 = some ad → x3.heap.size ≤ ad.block ∧ ∃ cs, wr.heap[ad.block]? = some (.cells cs 5 (0, 0))
  lo : x3.heap.size ≤ g
  bel : Below x3.heap.size x3 wr
theorem Ni.cell {x3 wr : World} {g k : Nat} {A : List (Option Addr × Nat)} (h : Ni x3 wr g k A) (hk : k < 20) (o : Obj) : (wr.alloc o).cell? ⟨g, k, none⟩ = some (.slice none 0 0) ∧ (wr.alloc o).frozen? ⟨g, k, none⟩ = false := by
  have hb : Below wr.heap.size wr (wr.alloc o) := (Below.refl _ _).alloc (Nat.le_refl _) _
  have hr := (hb.block g (Array.getElem?_eq_some_iff.1 h.row).1).trans h.row
  refine ⟨?_, frozen_of_row _ _ _ _ _ hr⟩
  rw [cell_of_row _ _ _ _ _ _ hr]
  have e : 20 - k = (20 - (k + 1)) + 1 := by omega
  have hl : (A.map (fun x => Value.slice x.1 160 x.2)).length = k := by rw [List.length_map]; exact h.len
  rw [e, Disk.nils_succ]
  simp [h.len]
theorem Ni.step {x3 wr : World} {g k : Nat} {A : List (Option Addr × Nat)} (h : Ni x3 wr g k A) (hk : k < 20) :
    Ni x3 ((wr.alloc (.cells (u8s y160) 5)).setCell ⟨g, k, none⟩ (.slice (some ⟨wr.heap.size, 0, none⟩) 160 160)) g (k + 1) (A ++ [(some ⟨wr.heap.size, 0, none⟩, 160)]) := by
  obtain ⟨wx, hwx⟩ : ∃ x, wr.alloc (.cells (u8s y160) 5) = x := ⟨_, rfl⟩
  have hb : Below wr.heap.size wr wx := by rw [← hwx]; exact (Below.refl _ _).alloc (Nat.le_refl _) _
  have hn : wx.heap[wr.heap.size]? = some (.cells (u8s y160) 5 (0, 0)) := by rw [← hwx]; exact al_at rfl
  rw [hwx]
  have hgl := (Array.getElem?_eq_some_iff.1 h.row).1
  have hr := (hb.block g hgl).trans h.row
  have hl : (A.map (fun x => Value.slice x.1 160 x.2)).length = k := by rw [List.length_map]; exact h.len
  have hty : ∀ (b : Nat), (∃ cs, wx.heap[b]? = some (.cells cs 5 (0, 0))) → (wx.setCell ⟨g, k, none⟩ (.slice (some ⟨wr.heap.size, 0, none⟩) 160 160)).heap[b]? = wx.heap[b]? := by
    rintro b ⟨cs, hc⟩
    refine heap_setCell_other wx ⟨g, k, none⟩ _ _ ?_
    rintro rfl
    rw [hr] at hc
    simp only [Option.some.injEq, Obj.cells.injEq] at hc
    exact absurd hc.2.1 (by decide)
  have hold : ∀ i (hi : i < A.length), ∀ ad, A[i].1 = some ad → ∃ cs, wx.heap[ad.block]? = some (.cells cs 5 (0, 0)) := fun i hi ad e => by
    obtain ⟨_, cs, hc⟩ := h.own i hi ad e
    exact ⟨cs, (hb.block _ (Array.getElem?_eq_some_iff.1 hc).1).trans hc⟩
  refine ⟨?_, by simp [h.len], fun i hi => ?_, fun i hi ad e => ?_, h.lo, below_set (below_to h.bel hb) h.lo _⟩
  · rw [heap_setCell_same wx g k _ _ _ hr]
    have e : 20 - k = (20 - (k + 1)) + 1 := by omega
    rw [e, Disk.nils_succ, List.setIfInBounds_toArray, List.set_append_right _ _ (by omega), hl, Nat.sub_self, List.set_cons_zero]
    simp
  · by_cases hiA : i < A.length
    · rw [List.getElem_append_left hiA]
      exact bytes_same ((h.byt i hiA).below hb) (fun ad e => hty _ (hold i hiA ad e)) (by simp)
    · have : i = A.length := by simp at hi; omega
      subst this
      simp only [List.getElem_concat_length]
      have hB : Bytes wx (some ⟨wr.heap.size, 0, none⟩) 160 y160 := bytes_of_row (X := y160) (t := 5) (fr := (0, 0)) (byt_zeros 160) hn
      exact bytes_same hB (fun ad e => hty _ (by cases e; exact ⟨_, hn⟩)) (by simp)
  · by_cases hiA : i < A.length
    · rw [List.getElem_append_left hiA] at e
      rw [hty _ (hold i hiA ad e)]
      exact ⟨(h.own i hiA ad e).1, hold i hiA ad e⟩
    · have : i = A.length := by simp at hi; omega
      subst this
      simp only [List.getElem_concat_length, Option.some.injEq] at e
      subst e
      rw [hty _ ⟨_, hn⟩]
      exact ⟨h.bel.size, _, hn⟩
theorem Ni.done {x3 wr : World} {g : Nat} {A : List (Option Addr × Nat)} (h : Ni x3 wr g 20 A) : Nw wr (fun b => x3.heap.size ≤ b ∧ b < wr.heap.size) g A (fun _ => y160) := by
  refine ⟨?_, h.len, ⟨h.lo, (Array.getElem?_eq_some_iff.1 h.row).1⟩, h.byt, fun i hi ad e => ?_, fun i hi ad e => (h.own i hi ad e).2⟩
  · have := h.row
    simpa [nwc, Disk.nils] using this
  · obtain ⟨h1, cs, h2⟩ := h.own i hi ad e
    exact ⟨h1, (Array.getElem?_eq_some_iff.1 h2).1⟩
def nF (F0 : Nat → List Int) (Y : List Rec.Im) (k : Nat) : Nat → List Int := newF F0 (lastB ((Y.take k).map Rec.pl))
theorem newF_snoc (F0 : Nat → List Int) (L : List (Int × List Int)) (z : Nat) (b : List Int) : newF F0 (lastB (L ++ [((z : Int), b)])) = fun j => if j = z then b else newF F0 (lastB L) j := by
  funext j
  unfold newF
  rw [lastB_snoc]
  by_cases h : j = z
  · subst h
    simp
  · rw [if_neg (fun e : (z : Int) = (j : Int) => h (by omega)), if_neg h]
theorem nF_succ (F0 : Nat → List Int) (Y : List Rec.Im) (k : Nat) (hk : k < Y.length) (z : Nat) (hz : Y[k].blk = (z : Int)) : nF F0 Y (k + 1) = fun j => if j = z then Y[k].bs else nF F0 Y k j := by
  unfold nF
  rw [List.take_succ_eq_append_getElem hk, List.map_append, List.map_cons, List.map_nil, show Rec.pl Y[k] = ((z : Int), Y[k].bs) by rw [← hz]; rfl, newF_snoc]
theorem nF_set (F0 : Nat → List Int) (Y : List Rec.Im) (k : Nat) (m : Rec.Im) : nF F0 (Y.set k m) k = nF F0 Y k := by
  unfold nF
  rw [List.take_set_of_le (Nat.le_refl k)]
theorem own_typ {w : World} {B : Nat} {m : Rec.Im} (h : Rec.OIm w B m) : ∀ ad, m.ba = some ad → ∃ cs, w.heap[ad.block]? = some (.cells cs 5 (0, 0)) := by
  intro ad e
  have ho := h.own
  rw [e] at ho
  rcases ho.2 with ⟨h3, _⟩ | ⟨g', cap', cur, h3, hb, hg', _⟩
  · cases h3
  · simp only [Value.slice.injEq, Option.some.injEq, true_and] at h3
    obtain ⟨rfl, _⟩ := h3
    exact ⟨_, hg'⟩
theorem oimgs_other {w : World} {B : Nat} {v : Value} {X : List Rec.Im} (h : Rec.OImgs w B v X) {g : Nat} {cs : Array Value} (hg : w.heap[g]? = some (.cells cs 38 (0, 0))) (i : Nat) (x : Value) : Rec.OImgs (w.setCell ⟨g, i, none⟩ x) B v X := by
  have key : ∀ (e : TypeId) (k : Nat), e ≠ 38 → (∃ c, w.heap[k]? = some (.cells c e (0, 0))) → (w.setCell ⟨g, i, none⟩ x).heap[k]? = w.heap[k]? := by
    rintro e k hne ⟨c, hc⟩
    refine heap_setCell_other w ⟨g, i, none⟩ _ _ ?_
    rintro rfl
    rw [hg] at hc
    simp only [Option.some.injEq, Obj.cells.injEq] at hc
    exact hne hc.2.1.symm
  refine ⟨Rec.own_same h.row (fun k hk => key _ k (by decide) (Rec.own_blk h.row k hk).2), fun m hm => ?_⟩
  have hm' := h.byt m hm
  exact ⟨Rec.own_same hm'.own (fun k hk => key _ k (by decide) (Rec.own_blk hm'.own k hk).2), hm'.byt, hm'.num⟩
theorem nw_two {w : World} {M : Nat → Prop} {g B : Nat} {A : List (Option Addr × Nat)} {F0 : Nat → List Int} {Z : List Rec.Im} {k : Nat} (h : Nw w M g A (nF F0 Z k)) (hk : k < Z.length) (hbl : Z[k].bl = 160) (ho : Rec.OIm w B Z[k]) (hM : ∀ ad, Z[k].ba = some ad → M ad.block) (z : Nat) (hz : Z[k].blk = (z : Int)) :
    Nw (w.setCell ⟨g, z, none⟩ (.slice Z[k].ba 160 Z[k].bc)) M g (A.set z (Z[k].ba, Z[k].bc)) (nF F0 Z (k + 1)) := by
  have hB := ho.byi.1
  rw [hbl] at hB
  rw [nF_succ F0 Z k hk z hz]
  exact h.put z Z[k].ba Z[k].bc Z[k].bs hB (fun ad e => ⟨hM ad e, own_typ ho ad e⟩)
theorem nw_other {w : World} {M : Nat → Prop} {g : Nat} {A : List (Option Addr × Nat)} {F : Nat → List Int} (h : Nw w M g A F) (G i : Nat) (x : Value) (hG : ∃ cs, w.heap[G]? = some (.cells cs 41 (0, 0))) : Nw (w.setCell ⟨G, i, none⟩ x) M g A F := by
  obtain ⟨cs, hG⟩ := hG
  have key : ∀ (e : TypeId) (k : Nat), e ≠ 41 → (∃ c, w.heap[k]? = some (.cells c e (0, 0))) → (w.setCell ⟨G, i, none⟩ x).heap[k]? = w.heap[k]? := by
    rintro e k hne ⟨c, hc⟩
    refine heap_setCell_other w ⟨G, i, none⟩ _ _ ?_
    rintro rfl
    rw [hG] at hc
    simp only [Option.some.injEq, Obj.cells.injEq] at hc
    exact hne hc.2.1.symm
  refine ⟨(key _ g (by decide) ⟨_, h.row⟩).trans h.row, h.len, h.mg, fun j hj => bytes_same (h.byt j hj) (fun ad e => key _ _ (by decide) (h.typ j hj ad e)) (by simp), h.own, fun j hj ad e => ?_⟩
  rw [key _ _ (by decide) (h.typ j hj ad e)]
  exact h.typ j hj ad e
structure Kq (q : Nat) (x3 wr : World) (v : Value) (n k g : Nat) (Y : List Rec.Im) (A : List (Option Addr × Nat)) (F : Nat → List Int) : Prop where
  md : Md q x3.heap.size x3 wr v n k Y
  nw : Nw wr (fun b => x3.heap.size ≤ b ∧ b < wr.heap.size) g A F
theorem Kq.below {q : Nat} {x3 wr w' : World} {v : Value} {n k g : Nat} {Y : List Rec.Im} {A : List (Option Addr × Nat)} {F : Nat → List Int} (h : Kq q x3 wr v n k g Y A F) (hb : Below wr.heap.size wr w') : Kq q x3 w' v n k g Y A F :=
  ⟨⟨oimgs_keep h.md.im (fun i h1 h2 => hb.block i h2), h.md.len, h.md.bl, h.md.sm, below_to h.md.bel hb⟩, (h.nw.same (fun b hk => hb.block b hk.2) hb.size).more (fun b hk => ⟨hk.1, Nat.lt_of_lt_of_le hk.2 hb.size⟩)⟩
theorem Kq.one {q : Nat} {x3 wr : World} {gI n k g cap : Nat} {Y : List Rec.Im} {A : List (Option Addr × Nat)} {F0 : Nat → List Int} (h : Kq q x3 wr (.slice (some ⟨gI, 0, none⟩) n cap) n k g Y A (nF F0 Y k)) (hk : k < Y.length) (hq : 0 < q) (hq2 : q ≤ 1000) (z : Nat) (hz : Y[k].blk % (q : Int) = (z : Int)) :
    Kq q x3 (wr.setCell ⟨gI, k * 2, none⟩ (.int .u64 (z : Int))) (.slice (some ⟨gI, 0, none⟩) n cap) n (k + 1) g (Y.set k { Y[k] with blk := (z : Int) }) A (nF F0 (Y.set k { Y[k] with blk := (z : Int) }) k) := by
  obtain ⟨g', hg', hg1, hg2⟩ := oimgs_form h.md.im (by omega)
  cases hg'
  refine ⟨h.md.step hk hg1 hq hq2 (z : Int) hz, ?_⟩
  rw [nF_set]
  have := nw_other h.nw gI (k * 2) (.int .u64 (z : Int)) (Rec.own_blk h.md.im.row gI rfl).2
  exact this.more (fun b hb => ⟨hb.1, by simpa using hb.2⟩)
theorem Kq.two {q : Nat} {x3 wr : World} {v : Value} {n k g : Nat} {Y : List Rec.Im} {A : List (Option Addr × Nat)} {F0 : Nat → List Int} (h : Kq q x3 wr v n (k + 1) g Y A (nF F0 Y k)) (hk : k < Y.length) (z : Nat) (hz : Y[k].blk = (z : Int)) :
    Kq q x3 (wr.setCell ⟨g, z, none⟩ (.slice Y[k].ba 160 Y[k].bc)) v n (k + 1) g Y (A.set z (Y[k].ba, Y[k].bc)) (nF F0 Y (k + 1)) := by
  have ho := h.md.im.byt Y[k] (List.getElem_mem hk)
  refine ⟨⟨oimgs_other h.md.im h.nw.row z _, h.md.len, h.md.bl, h.md.sm, below_set h.md.bel h.nw.mg.1 _⟩, ?_⟩
  have := nw_two h.nw hk (h.md.bl _ (List.getElem_mem hk)) ho (fun ad e => oim_blk ho ad e) z hz
  exact this.more (fun b hb => ⟨hb.1, by simpa using hb.2⟩)
theorem img_bl {w w' : World} {MA X : List Rec.Im} {v : Value} {k : Nat} (h : Rec.Ig w w' false MA k v X) : ∀ m ∈ X, m.bl = 160 := by
  intro m hm
  have hm1 : Rec.pl m ∈ X.map Rec.pl := List.mem_map.2 ⟨m, hm, rfl⟩
  rw [h.pls] at hm1
  have hm2 := List.mem_of_mem_take hm1
  obtain ⟨j, hj, hj2⟩ := List.getElem_of_mem hm2
  rw [Rec.get_imgP false _ j (by rw [Rec.len_imgP] at hj; exact hj)] at hj2
  have hb := (h.im.byt m hm).byi.1.1
  have e1 : m.bs.length = 160 := by
    rw [show m.bs = (Rec.pl m).2 from rfl, ← hj2]
    exact length_padTo _ _
  omega
theorem img_ok {q : Nat} {B n : Nat} {x3 wr : World} {v : Value} {Y : List Rec.Im} (h : Md q B x3 wr v n n Y) : ∀ x ∈ LM (Y.map toIm), x.2.length = 160 ∧ Byt x.2 ∧ 0 ≤ x.1 ∧ x.1 < (q : Int) := by
  intro x hx
  rw [LM_to] at hx
  obtain ⟨m, hm, rfl⟩ := List.mem_map.1 hx
  have ho := h.im.byt m hm
  obtain ⟨i, hi, rfl⟩ := List.getElem_of_mem hm
  exact ⟨ho.byi.1.1.trans (h.bl _ hm), ho.byt, ho.num.1, h.sm i hi (by rw [← h.len]; exact hi)⟩
structure Kr (x1 x9 y3 wr : World) (V D : Nat) (fp : Nat → Prop) (v : Vt) (d : Disk.Dk) (sa : Option Addr) (sc : Nat) (M : Nat → Prop) (g : Nat) (A : List (Option Addr × Nat)) (F : Nat → List Int) : Prop where
  vc : VC x1 wr V D fp v d sa sc
  mn : Mn M x1 wr V fp
  nw : Nw wr M g A F
  sm : ∀ c, x9.heap.size ≤ c → c < y3.heap.size → wr.heap[c]? = y3.heap[c]?
theorem Kr.below {x1 x9 y3 wr w' : World} {V D : Nat} {fp : Nat → Prop} {v : Vt} {d : Disk.Dk} {sa : Option Addr} {sc : Nat} {M : Nat → Prop} {g : Nat} {A : List (Option Addr × Nat)} {F : Nat → List Int} (h : Kr x1 x9 y3 wr V D fp v d sa sc M g A F) (hb : Below wr.heap.size wr w') (hM : ∀ c, x9.heap.size ≤ c → c < y3.heap.size → M c) : Kr x1 x9 y3 w' V D fp v d sa sc M g A F :=
  ⟨h.vc.below hb, ⟨fun c hc => Nat.lt_of_lt_of_le (h.mn.lt c hc) hb.size, h.mn.nf, h.mn.nv, h.mn.lo⟩, h.nw.same (fun c hc => hb.block c (h.mn.lt c hc)) hb.size, fun c h1 h2 => (hb.block c (h.mn.lt c (hM c h1 h2))).trans (h.sm c h1 h2)⟩
theorem Kr.set {x1 x9 y3 wr : World} {V D : Nat} {fp : Nat → Prop} {v : Vt} {d : Disk.Dk} {sa : Option Addr} {sc : Nat} {M : Nat → Prop} {g k B : Nat} {A : List (Option Addr × Nat)} {F1 : Nat → List Int} {Z : List Rec.Im} (h : Kr x1 x9 y3 wr V D fp v d sa sc M g A (nF F1 Z k)) (hg : g < x9.heap.size) (hsa : ∀ ad, sa = some ad → ad.block ≠ g) (hk : k < Z.length) (hbl : Z[k].bl = 160) (ho : Rec.OIm wr B Z[k]) (hM : ∀ ad, Z[k].ba = some ad → M ad.block) (z : Nat) (hz : Z[k].blk = (z : Int)) :
    Kr x1 x9 y3 (wr.setCell ⟨g, z, none⟩ (.slice Z[k].ba 160 Z[k].bc)) V D fp v d sa sc M g (A.set z (Z[k].ba, Z[k].bc)) (nF F1 Z (k + 1)) := by
  have hb : But g wr (wr.setCell ⟨g, z, none⟩ (.slice Z[k].ba 160 Z[k].bc)) := ⟨rfl, rfl, rfl, by simp, fun c _ hn => heap_setCell_other wr ⟨g, z, none⟩ c _ hn⟩
  exact ⟨h.vc.set g hb (h.mn.nf g h.nw.mg) (h.mn.nv g h.nw.mg) hsa (h.mn.lo g h.nw.mg), h.mn.set hb, nw_two h.nw hk hbl ho hM z hz, fun c h1 h2 => (heap_setCell_other wr ⟨g, z, none⟩ c _ (show c ≠ g by omega)).trans (h.sm c h1 h2)⟩
end Go.Proofs.YthbbijaikcmaeaaGreatDoor
