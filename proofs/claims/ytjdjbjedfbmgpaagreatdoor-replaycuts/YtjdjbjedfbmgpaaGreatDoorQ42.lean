/-
 Behind both appendings: the code's disk, the reference's in its box, the journal's state in its box. And what follows it.
-/
import Derived.Test.YtjdjbjedfbmgpaaGreatDoorQ38
import Derived.Test.YtjdjbjedfbmgpaaGreatDoorQ41
import Derived.Test.YtjdjbjedfbmgpaaGreatDoorQ39
import Derived.Test.YtjdjbjedfbmgpaaGreatDoorQ22
set_option linter.unusedVariables false
set_option maxRecDepth 100000
set_option maxRecDepth 100000
namespace Go.Proofs.YtjdjbjedfbmgpaaGreatDoor
open Go.RowKit Plain
theorem cm_but {x0 z y : World} {D G : Nat} {d : Disk.Dk} {cs : Array Value} {t : TypeId} (h : Disk.Cm x0 z D d) (hG : z.heap[G]? = some (.cells cs t (0, 0))) (ht : ¬ Disk.Own4 t) (hlo : x0.heap.size <= G) (hb : But G z y) : Disk.Cm x0 y D d := by
 obtain ⟨fp, c, hf⟩ := Disk.Cm.foot h
 have hn := hf G _ _ _ hG ht
 have hne : ∀ k, fp k -> k ≠ G := fun k hk e => hn (e ▸ hk)
 have hl := c.bel
 exact ⟨fp, ⟨c.is.same (fun k hk hlt => hb.block k hlt (hne k hk)), ⟨hb.os.trans hl.os, hb.tape.trans hl.tape, hb.output.trans hl.output, Nat.le_trans hl.size hb.size, fun k hk => (hb.block k (Nat.lt_of_lt_of_le hk hl.size) (by omega)).trans (hl.block k hk)⟩, c.lo, fun k hk => Nat.lt_of_lt_of_le (c.hi k hk) hb.size⟩⟩
structure Fc (x0 z : World) (D : Nat) (d : Disk.Dk) (Bm Bs : Nat) (V2 : List Value) (r2 : Disk.Rd) (s : Jst) : Prop where
 cm : Disk.Cm x0 z D d
 rv : Disk.Rv z (.agg V2.toArray) r2
 bm : z.heap[Bm]? = some (.cells V2.toArray 36 (0, 0))
 bs : z.heap[Bs]? = some (.cells (sa s) 27 (0, 0))
 lo : x0.heap.size <= Bs
theorem Fc.bel {x0 z : World} {D : Nat} {d : Disk.Dk} {Bm Bs : Nat} {V2 : List Value} {r2 : Disk.Rd} {s : Jst} (h : Fc x0 z D d Bm Bs V2 r2 s) : Below x0.heap.size x0 z := by
 obtain ⟨fp, c⟩ := h.cm
 exact c.bel
theorem Fc.below {x0 z y : World} {D : Nat} {d : Disk.Dk} {Bm Bs : Nat} {V2 : List Value} {r2 : Disk.Rd} {s : Jst} (h : Fc x0 z D d Bm Bs V2 r2 s) (hb : Below z.heap.size z y) : Fc x0 y D d Bm Bs V2 r2 s :=
 ⟨h.cm.step hb, h.rv.below hb, (hb.block _ (Array.getElem?_eq_some_iff.1 h.bm).1).trans h.bm, (hb.block _ (Array.getElem?_eq_some_iff.1 h.bs).1).trans h.bs, h.lo⟩
theorem Fc.put {x0 z y : World} {D : Nat} {d : Disk.Dk} {Bm Bs : Nat} {V2 : List Value} {r2 : Disk.Rd} {s s' : Jst} (h : Fc x0 z D d Bm Bs V2 r2 s) (hb : But Bs z y) (hs : y.heap[Bs]? = some (.cells (sa s') 27 (0, 0))) : Fc x0 y D d Bm Bs V2 r2 s' := by
 have hne : Bm ≠ Bs := fun e => by
  have h1 := h.bm
  rw [e, h.bs] at h1
  simp only [Option.some.injEq, Obj.cells.injEq] at h1
  exact absurd h1.2.1 (by decide)
 exact ⟨cm_but h.cm h.bs (by unfold Disk.Own4; decide) h.lo hb, rv_but h.rv hb h.bs (by decide) (by decide), (hb.block Bm (Array.getElem?_eq_some_iff.1 h.bm).1 hne).trans h.bm, hs, h.lo⟩
theorem Fc.disk {x0 z y : World} {D : Nat} {d d' : Disk.Dk} {Bm Bs : Nat} {V2 : List Value} {r2 : Disk.Rd} {s : Jst} (h : Fc x0 z D d Bm Bs V2 r2 s) (fr : Disk.Fr z y) (cm : Disk.Cm x0 y D d') : Fc x0 y D d' Bm Bs V2 r2 s := by
 obtain ⟨vd, vw, vo, e, k1, k2, k3⟩ := h.rv
 exact ⟨cm, ⟨vd, vw, vo, e, fr.own k1 (by unfold Disk.Own4; decide), fr.own k2 (by unfold Disk.Own4; decide), fr.own k3 (by unfold Disk.Own4; decide)⟩, (fr.2 _ _ _ _ h.bm (by unfold Disk.Own4; decide)).trans h.bm, (fr.2 _ _ _ _ h.bs (by unfold Disk.Own4; decide)).trans h.bs, h.lo⟩
theorem sa_count (s : Jst) (m : Nat) : (sa s).setIfInBounds 1 (.int .u64 (m : Int)) = sa { s with count := m } := by simp [sa, scs]
theorem scs_tag2 (s : Jst) (T : List Int) (h1 : s.tag.length = 32) (h2 : T.length = 32) : splice (scs s) 2 (T.map (Value.int .u8)) = scs { s with tag := T } := by
 simp [splice, scs, h1, h2]
theorem Fc.count {x0 z : World} {D : Nat} {d : Disk.Dk} {Bm Bs : Nat} {V2 : List Value} {r2 : Disk.Rd} {s : Jst} (h : Fc x0 z D d Bm Bs V2 r2 s) (m : Nat) : Fc x0 (z.setCell ⟨Bs, 1, none⟩ (.int .u64 (m : Int))) D d Bm Bs V2 r2 { s with count := m } :=
 h.put ((But.refl _ _).setCell 1 _) (by rw [heap_setCell_same z Bs 1 _ _ _ h.bs, sa_count])
theorem Fc.tag {x0 z : World} {D : Nat} {d : Disk.Dk} {Bm Bs : Nat} {V2 : List Value} {r2 : Disk.Rd} {s : Jst} (h : Fc x0 z D d Bm Bs V2 r2 s) (T : List Int) (h1 : s.tag.length = 32) (h2 : T.length = 32) : Fc x0 (z.setCells Bs 2 (T.map (Value.int .u8))) D d Bm Bs V2 r2 { s with tag := T } := by
 refine h.put (But.setCells _ _ (But.refl _ _)) ?_
 have hb : z.heap[Bs]? = some (.cells (scs s).toArray 27 (0, 0)) := h.bs
 rw [setCells_row Bs _ (T.map (Value.int .u8)) 2 _ z hb (by simp [scs, h1, h2]), scs_tag2 s T h1 h2]
 rfl
theorem Fc.sum {x0 z y : World} {D G : Nat} {d : Disk.Dk} {Bm Bs : Nat} {V2 : List Value} {r2 : Disk.Rd} {s : Jst} {cs : Array Value} (h : Fc x0 z D d Bm Bs V2 r2 s) (hG : z.heap[G]? = some (.cells cs 23 (0, 0))) (hlo : x0.heap.size <= G) (hb : But G z y) : Fc x0 y D d Bm Bs V2 r2 s := by
 have h1 : Bm ≠ G := fun e => by
  have h1 := h.bm
  rw [e, hG] at h1
  simp only [Option.some.injEq, Obj.cells.injEq] at h1
  exact absurd h1.2.1 (by decide)
 have h2 : Bs ≠ G := fun e => by
  have h1 := h.bs
  rw [e, hG] at h1
  simp only [Option.some.injEq, Obj.cells.injEq] at h1
  exact absurd h1.2.1 (by decide)
 exact ⟨cm_but h.cm hG (by unfold Disk.Own4; decide) hlo hb, rv_but h.rv hb hG (by decide) (by decide), (hb.block Bm (Array.getElem?_eq_some_iff.1 h.bm).1 h1).trans h.bm, (hb.block Bs (Array.getElem?_eq_some_iff.1 h.bs).1 h2).trans h.bs, h.lo⟩
theorem Fc.read {x0 z : World} {D Tg : Nat} {d : Disk.Dk} {Bm Bs : Nat} {V2 : List Value} {r2 : Disk.Rd} {s : Jst} {cs : Array Value} (h : Fc x0 z D d Bm Bs V2 r2 s) (q : Nat) (hq : q < d.n) (hd : d.down = false) (ho : d.ops.length < 1000000) (hu : d.uw.length < 1000000) (hT : z.heap[Tg]? = some (.cells cs 23 (0, 0))) :
  Calls Tryz.prog 16 #[.pointer (some ⟨D, 0, none⟩), .int .i64 (q : Int)] z fun e y => ∃ R, e = .returned (.tuple #[.slice (some ⟨R, 0, none⟩) 192 192, .int .i64 0]) /\ Fc x0 y D (Disk.rdOk d (q : Int)) Bm Bs V2 r2 s /\ y.heap[Tg]? = some (.cells cs 23 (0, 0)) /\ Bytes y (some ⟨R, 0, none⟩) 192 (Disk.lat d q) := by
 obtain ⟨fp, c, hf⟩ := Disk.Cm.foot h.cm
 refine (Disk.read_cx c q hd hq ho hu).mono ?_
 rintro e y ⟨R, fp', rfl, c', fo, lc, _, hl, hb⟩
 have fr := Disk.fr_fol hf fo
 exact ⟨R, rfl, h.disk fr ⟨fp', c'⟩, (fr.2 _ _ _ _ hT (by unfold Disk.Own4; decide)).trans hT, lc.bytes hb 192 hl⟩
theorem chS_bound (L : List ((Int × List Int) × Bool)) : (chS L).1.length <= L.length /\ (∀ c ∈ (chS L).1, c.length <= L.length) /\ (chS L).2.length <= L.length := by
 induction L using Disk.snoc_ind with
 | nil => exact ⟨Nat.le_refl _, fun c hc => by simp [chS] at hc, Nat.le_refl _⟩
 | snoc L x ih =>
  rw [chS_snoc]
  obtain ⟨h1, h2, h3⟩ := ih
  unfold chSt
  cases x.2
  ·refine ⟨?_, ?_, ?_⟩
   ·simp; omega
   ·intro c hc
    have := h2 c (by simpa using hc)
    simp; omega
   ·simp; omega
  ·refine ⟨?_, ?_, ?_⟩
   ·simp; omega
   ·intro c hc
    simp only [if_true, List.mem_append, List.mem_singleton] at hc
    rcases hc with hc | rfl
    ·have := h2 c hc
     simp; omega
    ·simp; omega
   ·simp
theorem Fc.load {x0 y0 : World} {D Bm Bs k : Nat} {d : Disk.Dk} {V2 : List Value} {r2 : Disk.Rd} {s3 : Jst} (O0 : List (Int × Int)) (C0 : Disk.Cm x0 y0 D ({ d with ops := O0 } : Disk.Dk)) (K : List Int) (hK : K.length = 32 /\ Byt K) (hJ : Disk.J k d r2) (hk : k < 800000) (hn : d.n = 8) (hd : d.down = false) (hu : d.uw.length < 900000) (hs : OkS s3) (hm : may 8 s3 = true) (hc : s3.count <= 8) (hT : Dig.Tabs x0) (hT2 : Seal.Tab x0) :
  ∃ (e0 : Int) (PL : List (List (Int × List Int))), (PL.length <= 8 /\ ∀ c ∈ PL, c.length <= 8) /\
   (∀ (y : World) (O : List (Int × Int)), O.length < 900000 -> Fc x0 y D ({ d with ops := O } : Disk.Dk) Bm Bs V2 r2 s3 -> Calls Tryz.prog 24 #[.pointer (some ⟨D, 0, none⟩), .agg (u8s K), .int .i64 0, .int .i64 8, .agg (sa s3)] y fun e z => ∃ ua uc X, e = .returned (.tuple #[.slice ua X.length uc, .int .i64 e0]) /\ Igss z ua X /\ plC X = PL /\ ∃ d4, Fc x0 z D d4 Bm Bs V2 r2 s3) /\
   (∀ x, Disk.Rv x (.agg V2.toArray) r2 -> Calls Tryz.prog 25 #[.agg V2.toArray, .agg (u8s K), .int .i64 0, .int .i64 8, .agg (sa s3)] x fun e z => Below x.heap.size x z /\ ∃ (V3 : List Value) (u2a : Option Addr) (u2c : Nat) (Wn : List Wx), (V3.length = 6 /\ V3.toArray.all (·.oneCell') = true) /\ e = .returned (.tuple #[.agg V3.toArray, .slice u2a Wn.length u2c, .int .i64 e0]) /\ Wnt z x.heap.size (.slice u2a Wn.length u2c) Wn /\ Wn.map (·.P) = PL) := by
 have hlat : ∀ p, p < d.n -> (Disk.lat d p).length = 192 /\ Byt (Disk.lat d p) := fun p _ => by
  obtain ⟨fp, c⟩ := C0
  obtain ⟨P, uv, ov, h1, _⟩ := c.is
  exact Disk.length_lat h1 p
 have hll : ((lds d 0 8 s3).map (opR K)).length <= 8 := by simp [lds, pcs]; exact hc
 have hbd := chS_bound ((lds d 0 8 s3).map (opR K))
 have hcode : ∀ (y : World) (O : List (Int × Int)), O.length < 900000 -> Fc x0 y D ({ d with ops := O } : Disk.Dk) Bm Bs V2 r2 s3 -> Calls Tryz.prog 24 #[.pointer (some ⟨D, 0, none⟩), .agg (u8s K), .int .i64 0, .int .i64 8, .agg (sa s3)] y fun e z => (∃ d4, Fc x0 z D d4 Bm Bs V2 r2 s3) /\ ((¬ LGood d K 0 8 s3 /\ e = .returned (.tuple #[.slice none 0 0, .int .i64 14])) ∨ (LGood d K 0 8 s3 /\ ∃ ua uc X, e = .returned (.tuple #[.slice ua X.length uc, .int .i64 0]) /\ Igss z ua X /\ plC X = ldC d K 0 8 s3)) := fun y O hO hF => by
  obtain ⟨fp, c, hf⟩ := Disk.Cm.foot hF.cm
  refine (load_v c K hK 0 8 s3 hs (by omega) (by omega) (by show 0 + 8 <= d.n; omega) (by show d.n <= 4096; omega) hm hd hO hu hT hT2).mono ?_
  rintro e z ⟨fp', c', fo, hr⟩
  refine ⟨⟨_, hF.disk (Disk.fr_fol hf fo) ⟨fp', c'⟩⟩, ?_⟩
  rcases hr with ⟨h1, h2⟩ | ⟨h1, u, X, B, h2, h3, _, _, h4⟩
  ·exact .inl ⟨h1, h2⟩
  ·obtain ⟨ua, uc, rfl⟩ := own_form2 h3.row
   have h5 : plC X = ldC d K 0 8 s3 := h4
   refine .inr ⟨h1, ua, uc, X, h2, h3.igss (fun x hx => ?_), h5⟩
   have h6 : x.M.map pl ∈ plC X := List.mem_map_of_mem (f := fun c : Sx => c.M.map pl) hx
   rw [h5] at h6
   have h7 := hbd.2.1 _ h6
   have h8 := (h3.im x hx).1
   rw [List.length_map] at h7
   unfold maxLen
   omega
 have href := fun (x : World) (hv : Disk.Rv x (.agg V2.toArray) r2) => rload_v hJ K hK 0 8 s3 hs (by omega) (by omega) (by omega) (by omega) hm hd hk hlat x _ hv
 by_cases hG : LGood d K 0 8 s3
 ·refine ⟨0, ldC d K 0 8 s3, ⟨Nat.le_trans hbd.1 hll, fun c hc => Nat.le_trans (hbd.2.1 c hc) hll⟩, fun y O hO hF => (hcode y O hO hF).mono ?_, fun x hv => (href x hv).mono ?_⟩
  ·rintro e z ⟨h1, ⟨h2, _⟩ | ⟨_, ua, uc, X, h3, h4, h5⟩⟩
   ·exact absurd hG h2
   ·exact ⟨ua, uc, X, h3, h4, h5, h1⟩
  ·rintro e z ⟨hb, ⟨h2, _⟩ | ⟨_, V3, u, Wn, h3, h4, h5, h6, h7⟩⟩
   ·exact absurd hG h2
   ·obtain ⟨u2a, u2c, rfl⟩ := own_form2 h5
    exact ⟨hb, V3, u2a, u2c, Wn, h3, h4, ⟨h5, h6⟩, h7⟩
 ·refine ⟨14, [], ⟨Nat.zero_le _, fun c hc => by simp at hc⟩, fun y O hO hF => (hcode y O hO hF).mono ?_, fun x hv => (href x hv).mono ?_⟩
  ·rintro e z ⟨h1, ⟨_, h2⟩ | ⟨h2, _⟩⟩
   ·exact ⟨none, 0, [], h2, ⟨fun h => by simp at h, fun x hx => by simp at hx⟩, rfl, h1⟩
   ·exact absurd h2 hG
  ·rintro e z ⟨hb, ⟨_, V3, h3, h4⟩ | ⟨h2, _⟩⟩
   ·exact ⟨hb, V3, none, 0, [], h3, h4, wnt_nil _ _, rfl⟩
   ·exact absurd h2 hG
theorem Wnt.but {z y : World} {B G : Nat} {u : Value} {Wn : List Wx} {cs : Array Value} (h : Wnt z B u Wn) (hb : But G z y) (hG : z.heap[G]? = some (.cells cs 36 (0, 0))) : Wnt y B u Wn :=
 ⟨own_same h.row (fun q hq => hb.block q (h.row.lt q hq).2 (own_neB h.row hq hG (by decide))), fun x hx => ⟨(h.im x hx).1, own_same (h.im x hx).2 (fun q hq => hb.block q ((h.im x hx).2.lt q hq).2 (own_neB (h.im x hx).2 hq hG (by decide)))⟩⟩
end Go.Proofs.YtjdjbjedfbmgpaaGreatDoor
namespace Go.Proofs.YtjdjbjedfbmgpaaGreatDoor
open Go.RowKit
section late
variable {P : Program} {md : Region.Mode} {ops : Array Oper} {Q : Exit -> Act -> World -> Prop} {S M : World -> Prop} {c : Nat}
def wpLate (P : Program) (md : Region.Mode) (ops : Array Oper) (Q : Exit -> Act -> World -> Prop) (S M : World -> Prop) (c : Nat) : Nat -> Array Bool -> Act -> World -> Prop
 | 0, L, a, w => Region.ready md ops L = [] /\ Q .normal a w
 | f + 1, L, a, w => (Region.ready md ops L = [] -> Q .normal a w) /\ ∀ i ∈ Region.ready md ops L, wpOp P ops Q i (fun b y => (S y /\ ((L.setIfInBounds i true).getD c true = false -> M y)) /\ wpLate P md ops Q S M c f (L.setIfInBounds i true) b y) a w
theorem late_of (f : Nat) : ∀ (L : Array Bool) (a : Act) (w : World), L.getD c true = true -> wpAnyH P md ops Q S f L a w -> wpLate P md ops Q S M c f L a w := by
 induction f with
 | zero => intro L a w _ h; exact h
 | succ f ih =>
  intro L a w hc h
  refine ⟨h.1, fun i hi => wpOp_mono (fun b y hy => ?_) (h.2 i hi)⟩
  have hc' : (L.setIfInBounds i true).getD c true = true := by
   by_cases e : i = c
   ·subst e
    rw [Array.getD_eq_getD_getElem?, Array.getElem?_setIfInBounds]
    by_cases q : i < L.size <;> simp [q]
   ·rw [getD_set_ne true e]; exact hc
  exact ⟨⟨hy.1, fun h0 => by rw [hc'] at h0; cases h0⟩, ih _ b y hc' hy.2⟩
theorem late_held (f : Nat) : ∀ (L : Array Bool) (a : Act) (w : World), wpLate P md ops Q S M c f L a w -> wpAnyH P md ops Q S f L a w := by
 induction f with
 | zero => intro L a w h; exact h
 | succ f ih => intro L a w h; exact ⟨h.1, fun i hi => wpOp_mono (fun b y hy => ⟨hy.1.1, ih _ b y hy.2⟩) (h.2 i hi)⟩
theorem late_all {rs : List Nat} {f : Nat} {L : Array Bool} {a : Act} {w : World} (hr : Region.ready md ops L = rs) (hne : rs ≠ []) (h : ∀ i ∈ rs, wpOp P ops Q i (fun b y => (S y /\ ((L.setIfInBounds i true).getD c true = false -> M y)) /\ wpLate P md ops Q S M c f (L.setIfInBounds i true) b y) a w) : wpLate P md ops Q S M c (f + 1) L a w :=
 ⟨fun h0 => absurd (hr ▸ h0) hne, hr ▸ h⟩
theorem late_one {i : Nat} {f : Nat} {L : Array Bool} {a : Act} {w : World} (hr : Region.ready md ops L = [i]) (h : wpOp P ops Q i (fun b y => (S y /\ ((L.setIfInBounds i true).getD c true = false -> M y)) /\ wpLate P md ops Q S M c f (L.setIfInBounds i true) b y) a w) : wpLate P md ops Q S M c (f + 1) L a w :=
 late_all hr (by simp) (fun j hj => by rw [List.mem_singleton.1 hj]; exact h)
theorem late_two {i j : Nat} {f : Nat} {L : Array Bool} {a : Act} {w : World} (hr : Region.ready md ops L = [i, j]) (h : wpOp P ops Q i (fun b y => (S y /\ ((L.setIfInBounds i true).getD c true = false -> M y)) /\ wpLate P md ops Q S M c f (L.setIfInBounds i true) b y) a w)
  (h2 : wpOp P ops Q j (fun b y => (S y /\ ((L.setIfInBounds j true).getD c true = false -> M y)) /\ wpLate P md ops Q S M c f (L.setIfInBounds j true) b y) a w) : wpLate P md ops Q S M c (f + 1) L a w :=
 late_all hr (by simp) (fun k hk => by
  rcases List.mem_cons.1 hk with rfl | hk
  ·exact h
  ·rw [List.mem_singleton.1 hk]; exact h2)
def waits (md : Region.Mode) (ops : Array Oper) (c i : Nat) : Bool := match ops[c]? with | some o => o.after.any (fun e => Region.binds md e && e.on == i) | none => true
theorem late_first {i : Nat} {oi : Oper} {v : Value} (hi : ops[i]? = some oi) (hs : Region.noSelect ops = true) (hQ : ∀ k a w, Q (.panic k) (a.put oi.dst v) w -> Q (.panic k) a w) (hci : c ≠ i) (hw : waits md ops c i = true) :
  ∀ (f : Nat) (L : Array Bool) (a : Act) (w : World), (∀ j oj, ops[j]? = some oj -> j ≠ i -> L.getD j true = false -> (∀ e ∈ oj.after, Region.binds md e = true -> e.on ≠ i) -> oi.apart ops oj = true) -> i ∈ Region.ready md ops L -> L.getD c true = false ->
   YieldsIf P ops (fun x => S x /\ M x) oi v a -> (S w /\ M w) -> wpLate P md ops Q S M c f (L.setIfInBounds i true) (a.put oi.dst v) w -> wpAnyH P md ops Q S (f + 1) L a w := by
 have hsel := Region.noSelect_spec hs
 intro f
 induction f with
 | zero =>
  intro L a w _ hr _ hy hSM H
  refine ⟨fun h0 => (by rw [h0] at hr; cases hr), fun j hj => ?_⟩
  by_cases e : j = i
  ·subst e; exact hy.wpOp hi hSM ⟨hSM.1, H⟩
  ·have h1 := ready_mono hj e
   rw [H.1] at h1
   cases h1
 | succ f ih =>
  intro L a w hap hr hcL hy hSM H
  refine ⟨fun h0 => (by rw [h0] at hr; cases hr), fun j hj => ?_⟩
  by_cases e : j = i
  ·subst e
   refine hy.wpOp hi hSM ⟨hSM.1, ?_⟩
   exact late_held _ _ _ _ H
  ·obtain ⟨hjL, oj, hoj, hall⟩ := mem_ready.1 hj
   have hiL := (mem_ready.1 hr).1
   have hno : ∀ e ∈ oj.after, Region.binds md e = true -> e.on ≠ i := fun e he hb hq => by
    have h1 := hall e he hb
    rw [hq] at h1
    simp only [Array.getD_eq_getD_getElem?] at h1 hiL
    cases h2 : L[i]? with
    | none => simp [h2] at h1
    | some b => simp [h2] at h1 hiL; simp_all
   have hjc : j ≠ c := fun q => by
    subst q
    unfold waits at hw
    rw [hoj] at hw
    obtain ⟨e, he, hb⟩ := Array.any_eq_true'.1 hw
    simp only [Bool.and_eq_true, beq_iff_eq] at hb
    exact hno e he hb.1 hb.2
   have h1 := wpOp_putIf hoj (hap j oj hoj e hjL hno) (fun cs b => hsel i oi cs b hi) (fun cs b => hsel j oj cs b hoj) hQ hy (H.2 j (ready_mono hj e))
   refine wpOp_mono (fun b y h3 => ?_) h1
   obtain ⟨hy', ⟨hSy, hMy⟩, h4⟩ := h3
   have hc2 : (L.setIfInBounds j true).getD c true = false := by rw [getD_set_ne true hjc]; exact hcL
   have hMy' : M y := hMy (by rw [getD_set_ne true hjc, getD_set_ne true (Ne.symm hci)]; exact hcL)
   refine ⟨hSy, ih (L.setIfInBounds j true) b y (fun k ok hk hki hun hno' => ?_) (ready_mono hr (Ne.symm e)) hc2 hy' ⟨hSy, hMy'⟩ (by rw [Array.setIfInBounds_comm _ _ e]; exact h4)⟩
   refine hap k ok hk hki ?_ hno'
   by_cases q : j = k
   ·subst q; exact hjL
   ·rw [getD_set_ne true q] at hun; exact hun
theorem take_late {i : Nat} {oi : Oper} {v : Value} {f : Nat} {L : Array Bool} {a : Act} {w : World} (c : Nat) (M : World -> Prop) (hi : ops[i]? = some oi)
  (hs : Region.noSelect ops = true) (hf : Region.free md ops L i = true) (hr : (Region.ready md ops L).contains i = true)
  (hQ : ∀ k a w, Q (.panic k) (a.put oi.dst v) w -> Q (.panic k) a w) (hw : Region.wanted oi (yielded ops a.tmps) = true) (hci : c ≠ i) (hwt : waits md ops c i = true) (hcL : L.getD c true = false)
  (hv : ∀ y, S y -> M y -> (execOp a.eval oi).run P y = .ok (.value v) y) (hS : S w) (hM : M w)
  (h : wpLate P md ops Q S M c f (L.setIfInBounds i true) (a.put oi.dst v) w) : wpAnyH P md ops Q S (f + 1) L a w :=
 late_first hi hs hQ hci hwt f L a w (Region.free_spec hi hf) (by simpa using hr) hcL (Or.inl ⟨hw, fun y h => hv y h.1 h.2⟩) ⟨hS, hM⟩ h
theorem dag_in {f : Nat} {L : Array Bool} {a : Act} {w : World} (h : ∀ G : Nat -> Array Bool -> Act -> World -> Prop, G = wpAnyH P md ops Q S -> G f L a w) : wpAnyH P md ops Q S f L a w := h _ rfl
theorem dag_to {G : Nat -> Array Bool -> Act -> World -> Prop} (hG : G = wpAnyH P md ops Q S) {f : Nat} {L L' : Array Bool} {a : Act} {w : World} (hL : L = L') (h : G f L' a w) : wpAnyH P md ops Q S f L a w := by
 rw [hL, <- hG]
 exact h
end late
end Go.Proofs.YtjdjbjedfbmgpaaGreatDoor
