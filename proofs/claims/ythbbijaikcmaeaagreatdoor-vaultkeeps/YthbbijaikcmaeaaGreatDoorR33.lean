/-
  What worn of package vault answers; what Update leaves, by folds over the items. And what follows it.
-/
import Derived.Deep.QuietTactic
import Derived.BigQuiet
import Derived.Test.YthbbijaikcmaeaaGreatDoorR32
namespace Go.Proofs.YthbbijaikcmaeaaGreatDoor
set_option maxRecDepth 100000
set_option linter.unusedVariables false
set_option maxRecDepth 100000
open Go.RowKit Go.Shelf Plain Go.Proofs.YthbbijaikcmaeaaGreatDoor.Shap.Plain
attribute [local go_sem] Oper.semAt_some
def wnb (v : Vt) (m : Nat) : Bool := decide (v.lim < v.nx + (m : Int))
set_option maxHeartbeats 1000000 in
theorem worn_v {w : World} {V D : Nat} {v : Vt} {sa : Option Addr} {sc : Nat} (hR : Vrd w V D v sa sc) (ok : v.Ok) (m : Nat) (hm : m ≤ 1000000) : Calls Tryz.prog 29 #[.pointer (some ⟨V, 0, none⟩), .int .u64 (m : Int)] w fun e w' => e = .returned (.bool (wnb v m)) ∧ Below w.heap.size w w' := by
  have c1 := hR.lim
  have c2 := hR.nx
  have h1 := ok.lim
  have h2 := ok.nx
  by_cases hc : v.lim < (m : Int)
  · have hd : decide (v.lim < (m : Int)) = true := by simpa using hc
    have e : wnb v m = true := by simp only [wnb, decide_eq_true_eq]; omega
    rw [e]
    clear e hR
    go_enter Tryz.func29, Tryz.ntmps29
    go_wp2
    go_quiet (fail)
    go_wp2
    go_ret
    exact ⟨rfl, below_drewN (Below.refl _ _) nq⟩
  · have hd : decide (v.lim < (m : Int)) = false := by simpa using hc
    have hw : IntKind.u64.wrap (v.lim - (m : Int)) = v.lim - (m : Int) := by rw [IntKind.wrap_u64]; omega
    have e : wnb v m = decide (v.lim - (m : Int) < v.nx) := by
      unfold wnb
      by_cases h : v.lim < v.nx + (m : Int)
      · rw [decide_eq_true h, decide_eq_true (by omega)]
      · rw [decide_eq_false h, decide_eq_false (by omega)]
    rw [e]
    clear e hR
    go_enter Tryz.func29, Tryz.ntmps29
    go_wp2
    go_quiet (fail)
    go_wp2
    go_ret
    exact ⟨rfl, below_drewN (Below.refl _ _) nq⟩
theorem results_R2 {fn : Func} {t u : Tmp} (h : fn.results = #[.cell t 36, .tmp u]) (tmps : Array Value) (w : World) (b : Nat) (r : Rf) (hr : OkR r) (ht : tmps.getD t undef = .pointer (some ⟨b, 0, none⟩)) (hg : w.heap[b]? = some (.cells (ra r) 36 (0, 0))) :
    (results fn tmps).run Tryz.prog w = .ok (.tuple #[.agg (ra r), tmps.getD u undef]) w := by
  have hl := run_loadVar_row (P := Tryz.prog) w b _ 36 _ _ _ hg Tryz.underlying36 rfl (by rw [size_ra hr]; exact infoR)
  rw [results_cell_tmp h, ht]
  simp [asAddr, hl]
/-- The bytes of an item to write. -/
def cB (n : Nat) (bk : Nat → Option (List Int)) (G : Nat → List Rf) (F : Nat → Rf) : Nat × Nat → List Int
  | (0, i) => (bk i).getD []
  | (l + 1, i) => Plain.nb (cnN n l i F (G (itm n (l + 1) i)) (fr (chn n l i)))
/-- What writing has come to: the disk, the next version, an error, what is known. -/
abbrev Wst := Disk.Dk × Int × Int × (Nat → Rf)
def wP (n : Nat) (F : Nat → Rf) (x : Nat × Nat) : Nat := 2 * itm n x.1 x.2 + ns (F (itm n x.1 x.2))
noncomputable def wS (K : List Int) (n : Nat) (bk : Nat → Option (List Int)) (G : Nat → List Rf) (s : Wst) (x : Nat × Nat) : List Int := (Yk K).sl (wP n s.2.2.2 x) s.2.1 (cB n bk G s.2.2.2 x)
noncomputable def wQ (K : List Int) (n : Nat) (bk : Nat → Option (List Int)) (G : Nat → List Rf) (s : Wst) (x : Nat × Nat) : Disk.Dk × Int := Xd.wr s.1 (wP n s.2.2.2 x) (wS K n bk G s x)
noncomputable def wR (K : List Int) (n : Nat) (bk : Nat → Option (List Int)) (G : Nat → List Rf) (s : Wst) (x : Nat × Nat) : Rf := ⟨(Yk K).hs x.1 (wP n s.2.2.2 x) (wS K n bk G s x), 2 * s.2.1 + (ns (s.2.2.2 (itm n x.1 x.2)) : Int)⟩
noncomputable def wrSt (K : List Int) (n : Nat) (bk : Nat → Option (List Int)) (G : Nat → List Rf) (s : Wst) (x : Nat × Nat) : Wst :=
  if s.2.2.1 ≠ 0 then s else
  if (wQ K n bk G s x).2 ≠ 0 then ((wQ K n bk G s x).1, s.2.1 + 1, (wQ K n bk G s x).2, s.2.2.2)
  else ((wQ K n bk G s x).1, s.2.1 + 1, 0, Fput s.2.2.2 (itm n x.1 x.2) (wR K n bk G s x))
noncomputable def wrL (K : List Int) (n : Nat) (bk : Nat → Option (List Int)) (G : Nat → List Rf) (s : Wst) (l : List (Nat × Nat)) : Wst := l.foldl (wrSt K n bk G) s
theorem wrL_snoc (K : List Int) (n : Nat) (bk : Nat → Option (List Int)) (G : Nat → List Rf) (s : Wst) (l : List (Nat × Nat)) (x : Nat × Nat) : wrL K n bk G s (l ++ [x]) = wrSt K n bk G (wrL K n bk G s l) x := by simp [wrL]
theorem wrL_app (K : List Int) (n : Nat) (bk : Nat → Option (List Int)) (G : Nat → List Rf) (s : Wst) (a b : List (Nat × Nat)) : wrL K n bk G s (a ++ b) = wrL K n bk G (wrL K n bk G s a) b := by simp [wrL]
theorem wrL_err (K : List Int) (n : Nat) (bk : Nat → Option (List Int)) (G : Nat → List Rf) : ∀ (l : List (Nat × Nat)) (s : Wst), s.2.2.1 ≠ 0 → wrL K n bk G s l = s
  | [], s, _ => rfl
  | x :: l, s, h => by
    have e : wrSt K n bk G s x = s := by unfold wrSt; rw [if_pos h]
    show wrL K n bk G (wrSt K n bk G s x) l = s
    rw [e]
    exact wrL_err K n bk G l s h
/-- What a disk that is written to keeps to. -/
def Dlm (d : Disk.Dk) (k : Nat) : Prop := (0 ≤ d.left ∧ d.left ≤ 9223372036854775807) ∧ d.ops.length < 910000 + k ∧ d.uw.length < 910000 + k
theorem dlm_wr {d : Disk.Dk} {k : Nat} (h : Dlm d k) (p : Nat) (S : List Int) : Dlm (Xd.wr d p S).1 (k + 1) := by
  obtain ⟨h1, h2, h3⟩ := h
  simp only [Xd]
  split
  · exact ⟨h1, by show d.ops.length < _; omega, by show d.uw.length < _; omega⟩
  · split
    · exact ⟨h1, by show d.ops.length < _; omega, by show d.uw.length < _; omega⟩
    · rename_i h4 h5
      refine ⟨?_, by simp [Disk.wrOk]; omega, by simp [Disk.wrOk]; omega⟩
      simp only [Disk.wrOk]
      by_cases hs : d.st = true
      · rw [if_pos hs]
        have : d.left ≠ 0 := fun e => h5 ⟨hs, e⟩
        omega
      · rw [if_neg hs]; exact h1
/-- What an update leaves. -/
def UpV (w0 w : World) (V D : Nat) (fp : Nat → Prop) (v : Vt) (sa : Option Addr) (sc : Nat) (q : Disk.Dk × Int × Int × Rf) (e : Ending) (w' : World) : Prop :=
  ∃ fp', e = .returned (.tuple #[.agg (ra q.2.2.2), .int .i64 q.2.2.1]) ∧ VC w0 w' V D fp' { v with nx := q.2.1 } q.1 sa sc ∧ Fw (fun k => k = V) w w' fp fp'
noncomputable def gSt (v : Vt) (its : List (Nat × Nat)) (d : Disk.Dk) : Gst := gtM v.key v.n (d, 0, F0 v.n v.top, fun _ => zn) (dnL v.n its (topL v.n))
noncomputable def wSt (v : Vt) (its : List (Nat × Nat)) (bk : Nat → Option (List Int)) (d : Disk.Dk) : Wst := wrL v.key v.n bk (gSt v its d).2.2.2 ((gSt v its d).1, v.nx, 0, (gSt v its d).2.2.1) its
noncomputable def updC (v : Vt) (its : List (Nat × Nat)) (bk : Nat → Option (List Int)) (d : Disk.Dk) : Disk.Dk × Int × Int × Rf :=
  if (gSt v its d).2.1 ≠ 0 then ((gSt v its d).1, v.nx, (gSt v its d).2.1, zr) else
  if wnb v its.length = true then ((gSt v its d).1, v.nx, 15, zr) else
  if (wSt v its bk d).2.2.1 ≠ 0 then ((wSt v its bk d).1, (wSt v its bk d).2.1, (wSt v its bk d).2.2.1, zr) else
  ((wSt v its bk d).1, (wSt v its bk d).2.1, 0, (wSt v its bk d).2.2.2 (itm v.n (topL v.n) 0))
end Go.Proofs.YthbbijaikcmaeaaGreatDoor
namespace Go.Proofs.YthbbijaikcmaeaaGreatDoor
set_option maxRecDepth 100000
set_option linter.unusedVariables false
open Go.RowKit Go.Shelf Plain Go.Proofs.YthbbijaikcmaeaaGreatDoor.Shap.Plain
attribute [local go_sem] Oper.semAt_some
theorem built_R0 : Tryz.prog.built 36 [] = some (ra zr) := by rw [builtR]; rfl
theorem infoZ : (Tryz.prog.info? 36).map (·.size) = some (ra zr).size := by rw [size_ra okR_zr]; exact infoR
theorem bytes_blk {w y : World} {a : Option Addr} {len : Nat} {L : List Int} (h : Bytes w a len L) (hp : 0 < len) (hs : ∀ ad, a = some ad → ad.block < w.heap.size → y.heap[ad.block]? = w.heap[ad.block]?) (hz : w.heap.size ≤ y.heap.size) : Bytes y a len L := by
  refine ⟨h.1, h.2.1, fun hp => ?_⟩
  obtain ⟨b, off, e, hlt, hc⟩ := h.2.2 hp
  exact ⟨b, off, e, Nat.lt_of_lt_of_le hlt hz, fun i hi => (World.cell?_of_block (show y.heap[(⟨b, off + i, none⟩ : Addr).block]? = w.heap[b]? from hs ⟨b, off, none⟩ e hlt)).trans (hc i hi)⟩
/-- What is asked of the items and the blocks. -/
structure Itm (n : Nat) (M : List Im) (its : List (Nat × Nat)) (bk : Nat → Option (List Int)) : Prop where
  ok : ∀ p ∈ its, Ok2 n p
  eq : Lib.compact (srt (pths n M)) = itI n its
  len : its.length ≤ 10000
  dln : (dnL n its (topL n)).length ≤ 10000
  leaf : ∀ p ∈ its, p.1 = 0 → ∃ m ∈ M, fB M ((itm n p.1 p.2 : Nat) : Int) = some (.slice m.ba m.bl m.bc) ∧ bk p.2 = some m.bs
  node : ∀ p ∈ its, p.1 ≠ 0 → fB M ((itm n p.1 p.2 : Nat) : Int) = none
/-- What the loop of Update keeps. -/
structure UpI (w0 x : World) (V D : Nat) (fp : Nat → Prop) (v : Vt) (sa : Option Addr) (sc U bb nb kb base : Nat) (iv : Value) (cnt : Nat) (A : List Int) (fb gn : Int → Option Value) (t : Wst) (W : World) (fp' : Nat → Prop) (gk : Int → Option Value) : Prop where
  vc : VC w0 W V D fp' { v with nx := t.2.1 } t.1 sa sc
  up : Upd W U bb nb kb base iv cnt A fb gn gk
  rel : RelF gk t.2.2.2
  okf : ∀ j, OkR (t.2.2.2 j)
  fw : Fw (fun k => k = kb ∨ k = V) x W fp fp'
theorem tk_zero {n : Nat} {M : List Im} (h : tk n M = 0) : ∀ m ∈ M, m.bl = 160 ∧ m.blk < (n : Int) := by
  unfold tk at h
  split at h
  · cases h
  · split at h
    · cases h
    · rename_i h1 h2
      intro m hm
      simp only [List.any_eq_true, not_exists, not_and, decide_eq_true_eq] at h1 h2
      exact ⟨Classical.byContradiction fun e => h1 m hm e, Int.not_le.1 (h2 m hm)⟩
theorem okF_put {F : Nat → Rf} (h : ∀ j, OkR (F j)) (i : Nat) {r : Rf} (hr : OkR r) : ∀ j, OkR (Fput F i r j) := fun j => by
  unfold Fput
  split
  · exact hr
  · exact h j
/-- An item is written, in the loop. -/
theorem step_v {w0 x W : World} {V D : Nat} {fp3 fp' : Nat → Prop} {v : Vt} {sa : Option Addr} {sc U bb nb kb base ig cp : Nat} {M : List Im} {its : List (Nat × Nat)} {bk : Nat → Option (List Int)} {gn gk : Int → Option Value} {G : Nat → List Rf} {t : Wst}
    (hI : UpI w0 x V D fp3 v sa sc U bb nb kb base (.slice (some ⟨ig, 0, none⟩) its.length cp) its.length (itI v.n its) (fB M) gn t W fp' gk) (hit : Itm v.n M its bk) (hG : RelG gn G) (hokG : OkG G)
    (hB : ∀ m ∈ M, Bytes W m.ba 160 m.bs) (hbl : ∀ m ∈ M, m.bl = 160) (hout : ∀ k, k = U ∨ k = bb ∨ k = nb ∨ k = kb ∨ k = ig → ¬ fp' k ∧ k ≠ V) (hkb : w0.heap.size ≤ kb) (hne : bb ≠ kb ∧ nb ≠ kb) (hnx : 1 ≤ t.2.1 ∧ t.2.1 ≤ 9223372036854775806) (k : Nat) (hd : Dlm t.1 k) (hk : k ≤ 20000) (p : Nat × Nat) (hp : p ∈ its) (he : t.2.2.1 = 0) :
    Calls Tryz.prog 30 #[.pointer (some ⟨V, 0, none⟩), .pointer (some ⟨U, 0, none⟩), .int .i64 (itm v.n p.1 p.2 : Nat)] W fun e W' => ∃ fp'' gk', e = .returned (.int .i64 (wrSt v.key v.n bk G t p).2.2.1) ∧ UpI w0 x V D fp3 v sa sc U bb nb kb base (.slice (some ⟨ig, 0, none⟩) its.length cp) its.length (itI v.n its) (fB M) gn (wrSt v.key v.n bk G t p) W' fp'' gk' ∧ Dlm (wrSt v.key v.n bk G t p).1 (k + 1) ∧ (wrSt v.key v.n bk G t p).2.1 = t.2.1 + 1 := by
  have hok := hit.ok p hp
  have hc : ∀ y, Below W.heap.size W y → Calls Tryz.prog 54 #[.pointer (some ⟨V, 0, none⟩), .pointer (some ⟨U, 0, none⟩), .int .i64 (itm v.n p.1 p.2 : Nat)] y fun e x' => ∃ a cap, e = .returned (.slice a 160 cap) ∧ Bytes x' a 160 (cB v.n bk G t.2.2.2 p) ∧ Below y.heap.size y x' := fun y hy => by
    have hUy : Upd y U bb nb kb base (.slice (some ⟨ig, 0, none⟩) its.length cp) its.length (itI v.n its) (fB M) gn gk := hI.up.same (hy.block U (Array.getElem?_eq_some_iff.1 hI.up.un).1) (hy.block bb hI.up.mb.lt) (hy.block nb hI.up.mn.lt) (hy.block kb hI.up.mkn.lt) (fun j hj => hy.block j (hI.up.own.lt j hj).2)
    obtain ⟨l, i⟩ := p
    cases l with
    | zero =>
      obtain ⟨m, hm, h1, h2⟩ := hit.leaf (0, i) hp rfl
      refine (content_leaf V _ hUy _ h1).mono ?_
      rintro e x' ⟨rfl, hb⟩
      refine ⟨m.ba, m.bc, by rw [hbl m hm], ?_, hb⟩
      have e : cB v.n bk G t.2.2.2 (0, i) = m.bs := by simp only [cB]; simp only at h2; rw [h2]; rfl
      rw [e]
      exact (hB m hm).below (below_to hy hb)
    | succ l =>
      refine (content_node (hI.vc.below hy) hUy l i hok.1 hok.2 t.2.2.2 G hI.rel hI.okf hG hokG (hit.node (l + 1, i) hp (by simp))).mono ?_
      rintro e x' ⟨a, cap, rfl, h1, _, _, h2⟩
      exact ⟨a, cap, rfl, h1, h2⟩
  have hds := hd
  obtain ⟨d1, d2, d3⟩ := hds
  refine (write_v hI.vc U bb nb kb base _ _ _ _ gk gn hI.up p.1 p.2 hok.1 hok.2 (t.2.2.2 (itm v.n p.1 p.2)) (hI.okf _) (hI.rel _) (fun j hj => ?_) hkb hne hnx _ hc d1 (by omega) (by omega)).mono ?_
  · rcases hj with h | h | h | h | h
    · exact hout j (.inl h)
    · exact hout j (.inr (.inl h))
    · exact hout j (.inr (.inr (.inl h)))
    · exact hout j (.inr (.inr (.inr (.inl h))))
    · cases h; exact hout ig (.inr (.inr (.inr (.inr rfl))))
  · rintro e W' ⟨fp'', he', hv', hu', hf'⟩
    have hq : Xd.wr t.1 (2 * itm v.n p.1 p.2 + ns (t.2.2.2 (itm v.n p.1 p.2))) ((Yk v.key).sl (2 * itm v.n p.1 p.2 + ns (t.2.2.2 (itm v.n p.1 p.2))) t.2.1 (cB v.n bk G t.2.2.2 p)) = wQ v.key v.n bk G t p := rfl
    have hdl := dlm_wr hd (2 * itm v.n p.1 p.2 + ns (t.2.2.2 (itm v.n p.1 p.2))) ((Yk v.key).sl (2 * itm v.n p.1 p.2 + ns (t.2.2.2 (itm v.n p.1 p.2))) t.2.1 (cB v.n bk G t.2.2.2 p))
    rw [hq] at hdl
    simp only [hq] at he' hv' hu'
    have hns := ns_lt (t.2.2.2 (itm v.n p.1 p.2))
    by_cases h0 : (wQ v.key v.n bk G t p).2 = 0
    · have e1 : wrSt v.key v.n bk G t p = ((wQ v.key v.n bk G t p).1, t.2.1 + 1, 0, Fput t.2.2.2 (itm v.n p.1 p.2) (wR v.key v.n bk G t p)) := by
        unfold wrSt
        rw [if_neg (by simpa using he), if_neg (by simpa using h0)]
      rw [if_pos h0] at hu'
      rw [h0] at he'
      rw [e1]
      refine ⟨fp'', _, he', ⟨hv', hu', relF_put hI.rel _ _, okF_put hI.okf _ ?_, hI.fw.trans hf'⟩, hdl, rfl⟩
      exact ⟨((Yk v.key).hl p.1 _ _).1, ((Yk v.key).hl p.1 _ _).2, by simp only [wR]; omega, by simp only [wR]; omega⟩
    · have e1 : wrSt v.key v.n bk G t p = ((wQ v.key v.n bk G t p).1, t.2.1 + 1, (wQ v.key v.n bk G t p).2, t.2.2.2) := by
        unfold wrSt
        rw [if_neg (by simpa using he), if_pos h0]
      rw [if_neg h0] at hu'
      rw [e1]
      exact ⟨fp'', _, he', ⟨hv', hu', hI.rel, hI.okf, hI.fw.trans hf'⟩, hdl, rfl⟩
end Go.Proofs.YthbbijaikcmaeaaGreatDoor
