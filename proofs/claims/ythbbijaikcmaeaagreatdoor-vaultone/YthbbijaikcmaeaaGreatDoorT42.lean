/-
  Memory of a law's own beside a vault; rows of bytes that are held against what a vault reads: the law's reads. And what follows it.
-/
import Derived.Test.YthbbijaikcmaeaaGreatDoorT39
import Derived.Test.YthbbijaikcmaeaaGreatDoorT41
import Derived.Test.YthbbijaikcmaeaaGreatDoorT11
import Derived.Test.YthbbijaikcmaeaaGreatDoorT13
import Derived.Test.YthbbijaikcmaeaaGreatDoorT07
namespace Go.Proofs.YthbbijaikcmaeaaGreatDoor
set_option maxRecDepth 100000
set_option linter.unusedVariables false
set_option maxRecDepth 100000
open Go.RowKit Go.Shelf Plain Go.Proofs.YthbbijaikcmaeaaGreatDoor.Shap.Plain
attribute [local go_sem] Oper.semAt_some
structure Mn (M : Nat → Prop) (w0 w : World) (V : Nat) (fp : Nat → Prop) : Prop where
  lt : ∀ k, M k → k < w.heap.size
  nf : ∀ k, M k → ¬ fp k
  nv : ∀ k, M k → k ≠ V
  lo : ∀ k, M k → w0.heap.size ≤ k
theorem Mn.fw {M : Nat → Prop} {w0 w w' : World} {V : Nat} {fp fp' : Nat → Prop} (h : Mn M w0 w V fp) (f : Fw (fun k => k = V) w w' fp fp') : Mn M w0 w' V fp' ∧ ∀ k, M k → w'.heap[k]? = w.heap[k]? :=
  ⟨⟨fun k hk => Nat.lt_of_lt_of_le (h.lt k hk) f.size, fun k hk => f.k k (h.lt k hk) (h.nf k hk), h.nv, h.lo⟩, fun k hk => f.block (h.lt k hk) (h.nf k hk) (h.nv k hk)⟩
theorem Mn.below {M : Nat → Prop} {w0 w w' : World} {V : Nat} {fp : Nat → Prop} (h : Mn M w0 w V fp) (hb : Below w.heap.size w w') (hi : ∀ k, fp k → k < w.heap.size) (hV : V < w.heap.size) (h0 : w0.heap.size ≤ w.heap.size) : Mn (fun k => M k ∨ w.heap.size ≤ k ∧ k < w'.heap.size) w0 w' V fp := by
  refine ⟨fun k hk => ?_, fun k hk => ?_, fun k hk => ?_, fun k hk => ?_⟩
  · rcases hk with hk | hk
    · exact Nat.lt_of_lt_of_le (h.lt k hk) hb.size
    · exact hk.2
  · rcases hk with hk | hk
    · exact h.nf k hk
    · exact fun hf => by have := hi k hf; omega
  · rcases hk with hk | hk
    · exact h.nv k hk
    · omega
  · rcases hk with hk | hk
    · exact h.lo k hk
    · omega
theorem Mn.set {M : Nat → Prop} {w0 w w' : World} {V G : Nat} {fp : Nat → Prop} (h : Mn M w0 w V fp) (hb : But G w w') : Mn M w0 w' V fp := ⟨fun k hk => Nat.lt_of_lt_of_le (h.lt k hk) hb.size, h.nf, h.nv, h.lo⟩
theorem bytes_same {w w' : World} {a : Option Addr} {len : Nat} {L : List Int} (h : Bytes w a len L) (hs : ∀ ad, a = some ad → w'.heap[ad.block]? = w.heap[ad.block]?) (hz : w.heap.size ≤ w'.heap.size) : Bytes w' a len L := by
  refine ⟨h.1, h.2.1, fun hp => ?_⟩
  obtain ⟨b, o, e, hlt, hc⟩ := h.2.2 hp
  refine ⟨b, o, e, Nat.lt_of_lt_of_le hlt hz, fun i hi => ?_⟩
  have hq : w'.cell? ⟨b, o + i, none⟩ = w.cell? ⟨b, o + i, none⟩ := World.cell?_of_block (hs ⟨b, o, none⟩ e)
  rw [hq]
  exact hc i hi
def nwc (A : List (Option Addr × Nat)) : Array Value := (A.map (fun x => Value.slice x.1 160 x.2)).toArray
structure Nw (w : World) (M : Nat → Prop) (g : Nat) (A : List (Option Addr × Nat)) (F : Nat → List Int) : Prop where
  row : w.heap[g]? = some (.cells (nwc A) 38 (0, 0))
  len : A.length = 20
  mg : M g
  byt : ∀ i (h : i < A.length), Bytes w A[i].1 160 (F i)
  own : ∀ i (h : i < A.length), ∀ ad, A[i].1 = some ad → M ad.block
  typ : ∀ i (h : i < A.length), ∀ ad, A[i].1 = some ad → ∃ cs, w.heap[ad.block]? = some (.cells cs 5 (0, 0))
theorem Nw.same {w w' : World} {M : Nat → Prop} {g : Nat} {A : List (Option Addr × Nat)} {F : Nat → List Int} (h : Nw w M g A F) (hs : ∀ k, M k → w'.heap[k]? = w.heap[k]?) (hz : w.heap.size ≤ w'.heap.size) : Nw w' M g A F :=
  ⟨(hs g h.mg).trans h.row, h.len, h.mg, fun i hi => bytes_same (h.byt i hi) (fun ad e => hs _ (h.own i hi ad e)) hz, h.own, fun i hi ad e => by rw [hs _ (h.own i hi ad e)]; exact h.typ i hi ad e⟩
theorem Nw.more {w : World} {M M' : Nat → Prop} {g : Nat} {A : List (Option Addr × Nat)} {F : Nat → List Int} (h : Nw w M g A F) (hs : ∀ k, M k → M' k) : Nw w M' g A F :=
  ⟨h.row, h.len, hs _ h.mg, h.byt, fun i hi ad e => hs _ (h.own i hi ad e), h.typ⟩
theorem nwc_set (A : List (Option Addr × Nat)) (i : Nat) (x : Option Addr × Nat) : (nwc A).setIfInBounds i (.slice x.1 160 x.2) = nwc (A.set i x) := by
  unfold nwc
  rw [List.setIfInBounds_toArray, List.map_set]
theorem Nw.put {w : World} {M : Nat → Prop} {g : Nat} {A : List (Option Addr × Nat)} {F : Nat → List Int} (h : Nw w M g A F) (i : Nat) (a : Option Addr) (c : Nat) (L : List Int) (hB : Bytes w a 160 L) (ho : ∀ ad, a = some ad → M ad.block ∧ ∃ cs, w.heap[ad.block]? = some (.cells cs 5 (0, 0))) :
    Nw (w.setCell ⟨g, i, none⟩ (.slice a 160 c)) M g (A.set i (a, c)) (fun j => if j = i then L else F j) := by
  have hg : ∀ (b : Nat), (∃ cs, w.heap[b]? = some (.cells cs 5 (0, 0))) → b ≠ g := by
    rintro b ⟨cs, hb⟩ rfl
    rw [h.row] at hb
    simp only [Option.some.injEq, Obj.cells.injEq] at hb
    exact absurd hb.2.1 (by decide)
  have hk : ∀ (b : Nat), (∃ cs, w.heap[b]? = some (.cells cs 5 (0, 0))) → (w.setCell ⟨g, i, none⟩ (.slice a 160 c)).heap[b]? = w.heap[b]? := fun b hb => heap_setCell_other w ⟨g, i, none⟩ _ _ (hg b hb)
  refine ⟨?_, by rw [List.length_set]; exact h.len, h.mg, fun j hj => ?_, fun j hj ad e => ?_, fun j hj ad e => ?_⟩
  · rw [heap_setCell_same w g i _ _ _ h.row, ← nwc_set A i (a, c)]
  · rw [List.getElem_set]
    by_cases hji : j = i
    · rw [if_pos hji.symm, if_pos hji]
      exact bytes_same hB (fun ad e => hk _ (ho ad e).2) (by simp)
    · rw [if_neg (fun e => hji e.symm), if_neg hji]
      rw [List.length_set] at hj
      exact bytes_same (h.byt j hj) (fun ad e => hk _ (h.typ j hj ad e)) (by simp)
  · rw [List.getElem_set] at e
    split at e
    · exact (ho ad e).1
    · rw [List.length_set] at hj
      exact h.own j hj ad e
  · rw [List.getElem_set] at e
    split at e
    · rw [hk _ (ho ad e).2]; exact (ho ad e).2
    · rw [List.length_set] at hj
      rw [hk _ (h.typ j hj ad e)]
      exact h.typ j hj ad e
theorem exec_idxNw {op : Oper} {ρ : Operand → Value} {w' : World} (x y : Operand) (ho : op.op = .indexAddr 37 x y) (b len cap j : Nat) (hx : ρ x = .slice (some ⟨b, 0, none⟩) len cap) (hy : ρ y = .int .i64 (j : Int)) (hj : j < len) :
    (execOp ρ op).run Tryz.prog w' = .ok (.value (.pointer (some ⟨b, 0 + j * 1, none⟩))) w' := Rec.exec_idxT 37 38 Tryz.underlying37 1 (by kernel_rfl) x y ho b 0 len cap j hx hy hj
structure Rds (w0 w : World) (V D : Nat) (v : Vt) (sa : Option Addr) (sc : Nat) (d : Disk.Dk) (f : Nat → List Int) (fp : Nat → Prop) (k : Nat) (wr : World) (fp' : Nat → Prop) (d' : Disk.Dk) : Prop where
  vc : VC w0 wr V D fp' v d' sa sc
  good : Good v.key v.n d' f v.top
  sm : Sm d d'
  ops : d'.ops.length ≤ d.ops.length + 6 * k
  fw : Fw No w wr fp fp'
theorem Rds.step {w0 w wr : World} {V D : Nat} {v : Vt} {sa : Option Addr} {sc : Nat} {d d' d2 : Disk.Dk} {f : Nat → List Int} {fp fp' fp2 : Nat → Prop} {k j : Nat} {w2 : World} (h : Rds w0 w V D v sa sc d f fp k wr fp' d') (hj : readM (Yk v.key) Xd v.n j (topL v.n) d' v.top = (d2, 0, f j)) (hg : Good v.key v.n d2 f v.top) (hv : VC w0 w2 V D fp2 v d2 sa sc) (hf : Fw No wr w2 fp' fp2) : Rds w0 w V D v sa sc d f fp (k + 1) w2 fp2 d2 := by
  have h1 := sm_read v.key v.n j (topL v.n) d' v.top
  have h2 := (gw_read v.key v.n j (topL v.n) d' v.top).ops
  rw [hj] at h1 h2
  have h3 := (topL_bd v.n h.vc.ok.lo h.vc.ok.hi).2.1
  have h4 := h.ops
  simp only at h2
  exact ⟨hv, hg, h.sm.trans h1, by omega, h.fw.trans hf⟩
end Go.Proofs.YthbbijaikcmaeaaGreatDoor
namespace Go.Proofs.YthbbijaikcmaeaaGreatDoor
set_option maxRecDepth 100000
set_option linter.unusedVariables false
open Go.RowKit Go.Shelf Plain Go.Proofs.YthbbijaikcmaeaaGreatDoor.Shap.Plain
theorem getM_err (K : List Int) (n : Nat) (d : Disk.Dk) (hu : Up d) (l i : Nat) (r : Rf) : ((getM (Yk K) Xd n d l i r).2.1 = 0 ∨ (getM (Yk K) Xd n d l i r).2.1 = 14) ∧ Up (getM (Yk K) Xd n d l i r).1 := by
  have e : Xd.rd d (pc n l i r) = (Disk.rdOk d (pc n l i r : Int), 0, Disk.lat d (pc n l i r)) := by simp only [Xd, hu.1, Bool.false_eq_true, if_false]
  have u : Up (Disk.rdOk d (pc n l i r : Int)) := hu
  unfold getM
  rw [e]
  split
  · exact ⟨.inl rfl, hu⟩
  · rw [if_neg (by simp)]
    split
    · split
      · split
        · exact ⟨.inl rfl, u⟩
        · exact ⟨.inr rfl, u⟩
      · exact ⟨.inr rfl, u⟩
    · exact ⟨.inr rfl, u⟩
theorem readM_err (K : List Int) (n j : Nat) : ∀ (l : Nat) (d : Disk.Dk) (r : Rf), Up d → (readM (Yk K) Xd n j l d r).2.1 = 0 ∨ (readM (Yk K) Xd n j l d r).2.1 = 14
  | 0, d, r, hu => (getM_err K n d hu 0 j r).1
  | l + 1, d, r, hu => by
    have h := getM_err K n d hu (l + 1) (j / 4 ^ (l + 1)) r
    unfold readM
    split
    · rename_i hne
      rcases h.1 with h1 | h1
      · exact absurd h1 hne
      · exact .inr h1
    · exact readM_err K n j l _ _ h.2
theorem getM_bad (K : List Int) (n : Nat) (d : Disk.Dk) (hu : Up d) (l i : Nat) (r : Rf) (h0 : r.s ≠ 0) (hd : r.d ≠ dsha (dg (l : Int) (pc n l i r : Int) (Disk.lat d (pc n l i r)))) : (getM (Yk K) Xd n d l i r).2.1 = 14 := by
  have e : Xd.rd d (pc n l i r) = (Disk.rdOk d (pc n l i r : Int), 0, Disk.lat d (pc n l i r)) := by simp only [Xd, hu.1, Bool.false_eq_true, if_false]
  unfold getM
  rw [e, if_neg h0, if_neg (by simp)]
  rw [if_neg (show ¬ r.d = (Yk K).hs l (pc n l i r) (Disk.lat d (pc n l i r)) from hd)]
theorem getM_good (K : List Int) (n : Nat) (d : Disk.Dk) (hu : Up d) (l i : Nat) (r : Rf) (B : List Int) (h0 : r.s ≠ 0) (hd : r.d = (Yk K).hs l (pc n l i r) (Disk.lat d (pc n l i r))) (ho : (Yk K).op (pc n l i r) (Disk.lat d (pc n l i r)) = some (r.s / 2, B)) : getM (Yk K) Xd n d l i r = (Disk.rdOk d (pc n l i r : Int), 0, B) := by
  have e : Xd.rd d (pc n l i r) = (Disk.rdOk d (pc n l i r : Int), 0, Disk.lat d (pc n l i r)) := by simp only [Xd, hu.1, Bool.false_eq_true, if_false]
  unfold getM
  rw [e, if_neg h0, if_neg (by simp), if_pos hd, ho]
  simp
theorem topL1 : topL 1 = 1 := by decide
theorem one_read (K : List Int) (B s : List Int) (hB : B.length = 160 ∧ Byt B) (d0 : Disk.Dk) (hu : Up d0) :
    ∃ d1 nx R, updM (Yk K) Xd 1 (topL 1) 1099511627776 [(0, B)] d0 1 zr = (d1, nx, 0, R) ∧ Up d1 ∧ OkR R ∧ ∀ lv : Nat, lv < 2 → ∀ d3, Up d3 → (∀ q, Disk.lat d3 q = if q = 2 * lv then s else Disk.lat d1 q) →
      ((readM (Yk K) Xd 1 0 (topL 1) d3 R).2.1 = 0 ∨ (readM (Yk K) Xd 1 0 (topL 1) d3 R).2.1 = 14) ∧ ((readM (Yk K) Xd 1 0 (topL 1) d3 R).2.1 = 0 → (readM (Yk K) Xd 1 0 (topL 1) d3 R).2.2 = B ∨ (Disk.lat d1 (2 * lv) ≠ s ∧ dsha (dg (lv : Int) ((2 * lv : Nat) : Int) (Disk.lat d1 (2 * lv))) = dsha (dg (lv : Int) ((2 * lv : Nat) : Int) s))) := by
  have hL : ∀ x ∈ ([(0, B)] : List (Int × List Int)), x.2.length = 160 ∧ Byt x.2 ∧ 0 ≤ x.1 ∧ x.1 < ((1 : Nat) : Int) := fun x hx => by
    rw [List.mem_singleton.1 hx]
    exact ⟨hB.1, hB.2, Int.le_refl 0, (by decide : (0 : Int) < ((1 : Nat) : Int))⟩
  have hle := len_its (lastB ([(0, B)] : List (Int × List Int))) 1 (topL 1) (off 1 (topL 1 + 1))
  have hoff : off 1 (topL 1 + 1) = 2 := by decide
  obtain ⟨d1, e, u, hnew, hold, c1, c2⟩ := updM_ok (Y := Yk K) (sound_Xd (2 * off 1 (topL 1 + 1))) (Nat.le_refl _) (topL_one 1 (by omega) (by omega)) [(0, B)] hL (by simp) 1 1099511627776 (by omega) (by omega) (by omega) d0 hu (cert_new (Yk K) 1 (topL 1) (Disk.lat d0))
  obtain ⟨ver, hver⟩ : ∃ v, verOf (itsTo (lastB [(0, B)]) 1 (topL 1) (off 1 (topL 1 + 1))) 1 = v := ⟨_, rfl⟩
  have hv1 : ∀ l i, 1 ≤ ver l i ∧ ver l i ≤ 9223372036854775807 := fun l i => by rw [← hver]; exact verOf_bd _ 1 (by omega) (by omega) l i
  rw [hver] at e c1
  obtain ⟨K', hK'⟩ : ∃ K', newK (Yk K) 1 (fun _ _ => yr) (lastB [(0, B)]) ver = K' := ⟨_, rfl⟩
  have w1 : wrt (lastB [(0, B)]) 1 1 0 = true := (wrt_last _ 1 1 0 (fun x hx => (hL x hx).2.2)).2 ⟨(0, B), by simp, (by decide : (0 : Int).toNat / 4 ^ 1 = 0)⟩
  have w0 : wrt (lastB [(0, B)]) 1 0 0 = true := (wrt_last _ 1 0 0 (fun x hx => (hL x hx).2.2)).2 ⟨(0, B), by simp, (by decide : (0 : Int).toNat / 4 ^ 0 = 0)⟩
  have k1 := newK_yes (Yk K) 1 (fun _ _ => yr) (fun _ => y160) (lastB [(0, B)]) ver 1 0 w1
  have k0 := newK_yes (Yk K) 1 (fun _ _ => yr) (fun _ => y160) (lastB [(0, B)]) ver 0 0 w0
  rw [hK'] at k1 k0 c1 e
  have s1 : (K' 1 0).s ≠ 0 := by rw [k1]; exact mkR_s (hv1 1 0).1
  have s0 : (K' 0 0).s ≠ 0 := by rw [k0]; exact mkR_s (hv1 0 0).1
  have p1 : pc 1 1 0 (K' 1 0) = 2 := by rw [k1, pc, mkR_sd]; rfl
  have p0 : pc 1 0 0 (K' 0 0) = 0 := by rw [k0, pc, mkR_sd]; rfl
  rw [topL1] at c1 e
  have hg : Good K 1 d1 (newF (fun _ => y160) (lastB [(0, B)])) (K' 1 0) := ⟨u, K', by rw [topL1]; exact c1, by rw [topL1]⟩
  have hf0 : newF (fun _ => y160) (lastB [(0, B)]) 0 = B := by simp [newF, lastB]
  have g1 := c1.got 1 0 (Nat.le_refl _) (by decide) s1
  have g0 := c1.got 0 0 (by omega) (by decide) s0
  rw [p1] at g1
  rw [p0] at g0
  rw [topL1]
  refine ⟨d1, _, K' 1 0, e, u, hg.okr, fun lv hlv d3 hu3 hl3 => ?_⟩
  refine ⟨readM_err K 1 0 1 d3 (K' 1 0) hu3, fun hz => ?_⟩
  by_cases hs : Disk.lat d1 (2 * lv) = s
  · left
    have hg3 := good_lat hg hu3 (fun q => by rw [hl3 q]; split <;> simp_all)
    obtain ⟨d', e3, _⟩ := good_read hg3 (by omega) (by omega) 0 (by omega)
    rw [topL1] at e3
    rw [e3, hf0]
  · right
    refine ⟨hs, Classical.byContradiction fun hc => ?_⟩
    have hlv2 : lv = 1 ∨ lv = 0 := by omega
    have hgl : (K' lv 0).s ≠ 0 ∧ pc 1 lv 0 (K' lv 0) = 2 * lv ∧ (K' lv 0).d = (Yk K).hs lv (2 * lv) (Disk.lat d1 (2 * lv)) := by
      rcases hlv2 with e1 | e1
      · rw [e1]; exact ⟨s1, p1, g1.1⟩
      · rw [e1]; exact ⟨s0, p0, g0.1⟩
    have hbad : ∀ d, Up d → Disk.lat d (2 * lv) = s → (getM (Yk K) Xd 1 d lv 0 (K' lv 0)).2.1 = 14 := fun d hud hld => by
      refine getM_bad K 1 d hud lv 0 (K' lv 0) hgl.1 ?_
      rw [hgl.2.1, hgl.2.2, hld]
      exact hc
    clear hc hgl hs
    rcases hlv2 with e1 | e1
    · rw [e1] at hbad hl3
      have hb := hbad d3 hu3 (by rw [hl3 2, if_pos rfl])
      have : (readM (Yk K) Xd 1 0 1 d3 (K' 1 0)).2.1 = 14 := by
        rw [readM, show 0 / 4 ^ (0 + 1) = 0 from rfl, if_pos (by rw [hb]; decide)]
        exact hb
      rw [this] at hz
      exact absurd hz (by decide)
    · rw [e1] at hbad hl3
      have l2 : Disk.lat d3 2 = Disk.lat d1 2 := by rw [hl3 2, if_neg (by decide)]
      have ge := getM_good K 1 d3 hu3 1 0 (K' 1 0) (body (newF (fun _ => y160) (lastB [(0, B)])) K' 1 0) s1 (by rw [p1, l2]; exact g1.1) (by rw [p1, l2]; exact g1.2)
      have hbl := below_ok c1 0 0 (Nat.le_refl _) (by decide) (body (newF (fun _ => y160) (lastB [(0, B)])) K' 1 0) (fun h => absurd h s1) (fun _ => rfl) 0 (by omega)
      have hu4 : Up (Disk.rdOk d3 (pc 1 1 0 (K' 1 0) : Int)) := hu3
      have hb := hbad (Disk.rdOk d3 (pc 1 1 0 (K' 1 0) : Int)) hu4 (by rw [Disk.lat_rd, hl3 (2 * 0), if_pos rfl])
      have : (readM (Yk K) Xd 1 0 1 d3 (K' 1 0)).2.1 = 14 := by
        rw [readM, show 0 / 4 ^ (0 + 1) = 0 from rfl, ge]
        simp only [ne_eq, not_true_eq_false, if_false]
        rw [show 0 / 4 ^ 0 % 4 = 0 from rfl, hbl]
        exact hb
      rw [this] at hz
      exact absurd hz (by decide)
theorem lat_tp (d : Disk.Dk) (k : Nat) (s : List Int) (q : Nat) : Disk.lat (Disk.tpOk (Disk.flOk d) k s) q = if q = k then s else Disk.lat d q := by
  show Disk.upd (Disk.flOk d).pl k s q = _
  unfold Disk.upd
  split
  · rfl
  · exact Disk.lat_fl d q
theorem pl_fl (d : Disk.Dk) (q : Nat) : (Disk.flOk d).pl q = Disk.lat d q := Disk.lat_fl d q
theorem image_r {w0 w : World} {D : Nat} {fp : Nat → Prop} {d : Disk.Dk} (C : Disk.Cx w0 w D fp d) :
    Calls Tryz.prog 16 #[.pointer (some ⟨D, 0, none⟩)] w fun e w' => ∃ g, e = .returned (.slice (some ⟨g, 0, none⟩) d.n d.n) ∧ Below w.heap.size w w' ∧ ∀ x : World, (∀ c, w.heap.size ≤ c → c < w'.heap.size → x.heap[c]? = w'.heap[c]?) → ∀ q, q < d.n → ∃ a c, x.cell? ⟨g, q, none⟩ = some (.slice a 192 c) ∧ Bytes x a 192 (d.pl q) := by
  obtain ⟨P, uv, ov, h1, _⟩ := C.is
  have hpl := h1.hpl
  refine (Disk.image_any w D P uv ov d h1).mono ?_
  rintro e w' ⟨g, L, rfl, h⟩
  have hrow := h.row
  rw [Nat.sub_self] at hrow
  have hnil : Disk.nils 0 = [] := rfl
  rw [hnil, List.append_nil] at hrow
  refine ⟨g, rfl, h.bel, fun x hx q hq => ?_⟩
  have hq' : q < L.length := by rw [h.len]; exact hq
  have ho := (h.each q hq').1
  have hb := (h.each q hq').2
  have hlo := h.lo
  have ho' : x.ownsRow 0 5 1 L[q] 192 ((d.pl q).map (Value.int .u8)) := Rec.own_same ho (fun k hk => hx k (by have := hb k hk; omega) (ho.lt k hk).2)
  obtain ⟨a, c, hv⟩ := Rec.own_form2 ho'
  rw [hv] at ho'
  refine ⟨a, c, ?_, own_bytes ho' (hpl q).2⟩
  rw [cell_of_row _ _ _ _ _ _ ((hx g hlo (Array.getElem?_eq_some_iff.1 hrow).1).trans hrow), List.getElem?_toArray, List.getElem?_eq_getElem hq', hv]
theorem tamper_cx {w0 w : World} {D : Nat} {fp : Nat → Prop} {d : Disk.Dk} (C : Disk.Cx w0 w D fp d) (i : Nat) (a : Option Addr) (cap : Nat) (B : List Int) (hB : Bytes w a 192 B) (hap : ∀ ad, a = some ad → ¬ fp ad.block) (hi : i < d.n) (hu : d.uw.length < 1000000) :
    Calls Tryz.prog 17 #[.pointer (some ⟨D, 0, none⟩), .int .i64 (i : Int), .slice a 192 cap] w fun e w' => e = .returned (.int .i64 0) ∧ ∃ fp', Disk.Cx w0 w' D fp' (Disk.tpOk d i B) ∧ Disk.Fol w fp w' fp' :=
  (Disk.tamper_ok w D fp d C.is i a cap B hB hap hi hu).mono fun e w' ⟨h1, h2⟩ => ⟨h1, C.nx h2⟩
theorem own_lit5 {w : World} {base G n : Nat} {L : List Int} (hn : L.length = n) (h : w.heap[G]? = some (.cells (u8s L) 5 (0, 0))) (hb : base ≤ G) (hm : n ≤ maxLen) : w.ownsRow base 5 1 (.slice (some ⟨G, 0, none⟩) n n) n (L.map (Value.int .u8)) := by
  refine ⟨by rw [List.length_map, hn, Nat.mul_one], .inr ⟨G, n, u8s L, rfl, hb, h, Nat.le_refl _, hm, by simp [u8s, hn], ?_⟩⟩
  rw [List.take_of_length_le (by simp [u8s, hn])]
  rfl
theorem sliceB_hi (g n cap : Nat) (hi : 192 ≤ n) (hc : n ≤ cap) (x : World) : (Instr.sliceAt 38 (.slice (some ⟨g, 0, none⟩) n cap) none (some (.int .i64 192)) none).run Tryz.prog x = .ok (.slice (some ⟨g, 0, none⟩) 192 cap) x := by
  have hu : Tryz.prog.underlying 38 = some (.slice (Tryz.prog.elem 38)) := by kernel_rfl
  have hq := run_slice_h (P := Tryz.prog) x 38 (some ⟨g, 0, none⟩) n cap hu .i64 192 (by omega) (by omega)
  rw [run_sliceAt_slice (P := Tryz.prog) x 38 _ _ _ _ hu, hq]
  have hs : (sizeOf (Tryz.prog.elem 38)).run Tryz.prog x = .ok 1 x := by kernel_rfl
  rw [hs, Result.andThen_ok, sliced]
  simp [show ¬ cap = 0 by omega, Addr.add_mid]
theorem bytes_take {w : World} {a : Option Addr} {n m : Nat} {L : List Int} (h : Bytes w a n L) (hm : m ≤ n) : Bytes w a m (L.take m) := by
  refine ⟨by rw [List.length_take, h.1]; omega, byt_take L m h.2.1, fun hp => ?_⟩
  obtain ⟨b, o, e, hlt, hc⟩ := h.2.2 (by omega)
  refine ⟨b, o, e, hlt, fun i hi => ?_⟩
  rw [hc i (by omega)]
  congr 2
  rw [List.getD_eq_getElem?_getD, List.getD_eq_getElem?_getD, List.getElem?_take_of_lt hi]
theorem and1_u8 : ∀ x : Fin 256, bits .and .u8 (x.val : Int) 1 = ((x.val % 2 : Nat) : Int) := by decide +kernel
theorem atConvT {P : Program} {ops : Array Oper} {Q : Exit → Act → World → Prop} {rest : List Oper} {a : Act} {w : World} (t u : TypeId) {x : Operand} {d : Option Tmp} {ty : TypeId} {p : String} {af : Array Edge} {g : Option (Nat × Bool)} (h : wpList P ops Q ({ dst := d, op := .convert t u x, type := ty, pos := p, after := af, guard := g } :: rest) a w) : wpList P ops Q ({ dst := d, op := .convert t u x, type := ty, pos := p, after := af, guard := g } :: rest) a w := h
theorem exec_strNt {o : Oper} {ρ : Operand → Value} {w' : World} (x y : Operand) (ty : TypeId) (ho : o.op = .binOp .neq 9 x y ty) (A B : List Int) (hA : Byt A) (hB : Byt B) (hne : A ≠ B) (hx : ρ x = .string (strOfNums A)) (hy : ρ y = .string (strOfNums B)) :
    (execOp ρ o).run Tryz.prog w' = .ok (.value (.bool true)) w' := by
  rw [Rec.exec_strN x y ty ho A B hA hB hx hy, decide_eq_false hne]
  rfl
theorem exec_strEf {o : Oper} {ρ : Operand → Value} {w' : World} (x y : Operand) (ty : TypeId) (ho : o.op = .binOp .eql 9 x y ty) (A B : List Int) (hA : Byt A) (hB : Byt B) (hne : A ≠ B) (hx : ρ x = .string (strOfNums A)) (hy : ρ y = .string (strOfNums B)) :
    (execOp ρ o).run Tryz.prog w' = .ok (.value (.bool false)) w' := by
  rw [Rec.exec_str x y ty ho A B hA hB hx hy, decide_eq_false hne]
theorem exec_eqSt {o : Oper} {ρ : Operand → Value} {w' : World} (x y : Operand) (ty : TypeId) (ho : o.op = .binOp .eql 23 x y ty) (A : List Int) (hA : A.length = 32) (hx : ρ x = .agg (u8s A)) (hy : ρ y = .agg (u8s A)) :
    (execOp ρ o).run Tryz.prog w' = .ok (.value (.bool true)) w' := by
  rw [exec_eqS x y ty ho A A hA hA hx hy, decide_eq_true rfl]
theorem cell_lt {w : World} {b o : Nat} {v : Value} (h : w.cell? ⟨b, o, none⟩ = some v) : b < w.heap.size := by
  by_cases hb : b < w.heap.size
  · exact hb
  · have : w.heap[b]? = none := Array.getElem?_eq_none (by omega)
    simp [World.cell?, this] at h
theorem built_Im1 (a : Option Addr) (l c : Nat) : Tryz.prog.built 41 [(1, .slice a l c)] = some #[.int .u64 0, .slice a l c] := by kernel_rfl
theorem dg_lv (S : List Int) : dg 0 0 S = [0, 0, 0, 0, 0] ++ S ∧ dg 1 2 S = [1, 2, 0, 0, 0] ++ S := ⟨by rfl, by rfl⟩
end Go.Proofs.YthbbijaikcmaeaaGreatDoor
