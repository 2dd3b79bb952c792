/-
  What worn of package vault answers; what Update leaves, by folds over the items.
-/
import Derived.Test.YtnicgmimhgbcfaaGreatDoorWG
import Derived.Deep.QuietTactic
import Derived.BigQuiet
namespace Go.Proofs.YtnicgmimhgbcfaaGreatDoor
set_option linter.unusedVariables false
set_option maxRecDepth 100000
open Go.RowKit Go.Shelf Plain Go.Proofs.YtnicgmimhgbcfaaGreatDoor.Shap.Plain
attribute [local go_sem] Oper.semAt_some

def wnb (v : Vt) (m : Nat) : Bool := decide (v.lim < v.nx + (m : Int))
set_option maxHeartbeats 1000000 in
theorem worn_v {w : World} {V D : Nat} {v : Vt} {sa : Option Addr} {sc : Nat} (hR : Vrd w V D v sa sc) (ok : v.Ok) (m : Nat) (hm : m ≤ 1000000) : Calls Tryz.prog 51 #[.pointer (some ⟨V, 0, none⟩), .int .u64 (m : Int)] w fun e w' => e = .returned (.bool (wnb v m)) ∧ Below w.heap.size w w' := by
  have c1 := hR.lim
  have c2 := hR.nx
  have h1 := ok.lim
  have h2 := ok.nx
  by_cases hc : v.lim < (m : Int)
  · have hd : decide (v.lim < (m : Int)) = true := by simpa using hc
    have e : wnb v m = true := by simp only [wnb, decide_eq_true_eq]; omega
    rw [e]
    clear e hR
    go_enter Tryz.func51, Tryz.ntmps51
    go_wp2
    go_quiet (fail)
    go_wp2
    go_ret
    exact ⟨rfl, below_drewN (Below.refl _ _) nq⟩
  · have hd : decide (v.lim < (m : Int)) = false := by simpa using hc
    have hw : IntKind.u64.wrap (v.lim - (m : Int)) = v.lim - (m : Int) := by rw [IntKind.wrap_u64]; omega
    have e : wnb v m = decide (v.lim - (m : Int) < v.nx) := by
      unfold wnb
      by_cases h : v.lim < v.nx + (m : Int)
      · rw [decide_eq_true h, decide_eq_true (by omega)]
      · rw [decide_eq_false h, decide_eq_false (by omega)]
    rw [e]
    clear e hR
    go_enter Tryz.func51, Tryz.ntmps51
    go_wp2
    go_quiet (fail)
    go_wp2
    go_ret
    exact ⟨rfl, below_drewN (Below.refl _ _) nq⟩
theorem results_R2 {fn : Func} {t u : Tmp} (h : fn.results = #[.cell t 26, .tmp u]) (tmps : Array Value) (w : World) (b : Nat) (r : Rf) (hr : OkR r) (ht : tmps.getD t undef = .pointer (some ⟨b, 0, none⟩)) (hg : w.heap[b]? = some (.cells (ra r) 26 (0, 0))) :
    (results fn tmps).run Tryz.prog w = .ok (.tuple #[.agg (ra r), tmps.getD u undef]) w := by
  have hl := run_loadVar_row (P := Tryz.prog) w b _ 26 _ _ _ hg Tryz.underlying26 rfl (by rw [size_ra hr]; exact infoR)
  rw [results_cell_tmp h, ht]
  simp [asAddr, hl]
/-- The bytes of an item to write. -/
def cB (n : Nat) (bk : Nat → Option (List Int)) (G : Nat → List Rf) (F : Nat → Rf) : Nat × Nat → List Int
  | (0, i) => (bk i).getD []
  | (l + 1, i) => Plain.nb (cnN n l i F (G (itm n (l + 1) i)) (fr (chn n l i)))
/-- What writing has come to: the disk, the next version, an error, what is known. -/
abbrev Wst := Disk.Dk × Int × Int × (Nat → Rf)
def wP (n : Nat) (F : Nat → Rf) (x : Nat × Nat) : Nat := 2 * itm n x.1 x.2 + ns (F (itm n x.1 x.2))
noncomputable def wS (K : List Int) (n : Nat) (bk : Nat → Option (List Int)) (G : Nat → List Rf) (s : Wst) (x : Nat × Nat) : List Int := (Yk K).sl (wP n s.2.2.2 x) s.2.1 (cB n bk G s.2.2.2 x)
noncomputable def wQ (K : List Int) (n : Nat) (bk : Nat → Option (List Int)) (G : Nat → List Rf) (s : Wst) (x : Nat × Nat) : Disk.Dk × Int := Xd.wr s.1 (wP n s.2.2.2 x) (wS K n bk G s x)
noncomputable def wR (K : List Int) (n : Nat) (bk : Nat → Option (List Int)) (G : Nat → List Rf) (s : Wst) (x : Nat × Nat) : Rf := ⟨(Yk K).hs x.1 (wP n s.2.2.2 x) (wS K n bk G s x), 2 * s.2.1 + (ns (s.2.2.2 (itm n x.1 x.2)) : Int)⟩
noncomputable def wrSt (K : List Int) (n : Nat) (bk : Nat → Option (List Int)) (G : Nat → List Rf) (s : Wst) (x : Nat × Nat) : Wst :=
  if s.2.2.1 ≠ 0 then s else
  if (wQ K n bk G s x).2 ≠ 0 then ((wQ K n bk G s x).1, s.2.1 + 1, (wQ K n bk G s x).2, s.2.2.2)
  else ((wQ K n bk G s x).1, s.2.1 + 1, 0, Fput s.2.2.2 (itm n x.1 x.2) (wR K n bk G s x))
noncomputable def wrL (K : List Int) (n : Nat) (bk : Nat → Option (List Int)) (G : Nat → List Rf) (s : Wst) (l : List (Nat × Nat)) : Wst := l.foldl (wrSt K n bk G) s
theorem wrL_snoc (K : List Int) (n : Nat) (bk : Nat → Option (List Int)) (G : Nat → List Rf) (s : Wst) (l : List (Nat × Nat)) (x : Nat × Nat) : wrL K n bk G s (l ++ [x]) = wrSt K n bk G (wrL K n bk G s l) x := by simp [wrL]
theorem wrL_app (K : List Int) (n : Nat) (bk : Nat → Option (List Int)) (G : Nat → List Rf) (s : Wst) (a b : List (Nat × Nat)) : wrL K n bk G s (a ++ b) = wrL K n bk G (wrL K n bk G s a) b := by simp [wrL]
theorem wrL_err (K : List Int) (n : Nat) (bk : Nat → Option (List Int)) (G : Nat → List Rf) : ∀ (l : List (Nat × Nat)) (s : Wst), s.2.2.1 ≠ 0 → wrL K n bk G s l = s
  | [], s, _ => rfl
  | x :: l, s, h => by
    have e : wrSt K n bk G s x = s := by unfold wrSt; rw [if_pos h]
    show wrL K n bk G (wrSt K n bk G s x) l = s
    rw [e]
    exact wrL_err K n bk G l s h
/-- What a disk that is written to keeps to. -/
def Dlm (d : Disk.Dk) (k : Nat) : Prop := (0 ≤ d.left ∧ d.left ≤ 9223372036854775807) ∧ d.ops.length < 910000 + k ∧ d.uw.length < 910000 + k
theorem dlm_wr {d : Disk.Dk} {k : Nat} (h : Dlm d k) (p : Nat) (S : List Int) : Dlm (Xd.wr d p S).1 (k + 1) := by
  obtain ⟨h1, h2, h3⟩ := h
  simp only [Xd]
  split
  · exact ⟨h1, by show d.ops.length < _; omega, by show d.uw.length < _; omega⟩
  · split
    · exact ⟨h1, by show d.ops.length < _; omega, by show d.uw.length < _; omega⟩
    · rename_i h4 h5
      refine ⟨?_, by simp [Disk.wrOk]; omega, by simp [Disk.wrOk]; omega⟩
      simp only [Disk.wrOk]
      by_cases hs : d.st = true
      · rw [if_pos hs]
        have : d.left ≠ 0 := fun e => h5 ⟨hs, e⟩
        omega
      · rw [if_neg hs]; exact h1
/-- What an update leaves. -/
def UpV (w0 w : World) (V D : Nat) (fp : Nat → Prop) (v : Vt) (sa : Option Addr) (sc : Nat) (q : Disk.Dk × Int × Int × Rf) (e : Ending) (w' : World) : Prop :=
  ∃ fp', e = .returned (.tuple #[.agg (ra q.2.2.2), .int .i64 q.2.2.1]) ∧ VC w0 w' V D fp' { v with nx := q.2.1 } q.1 sa sc ∧ Fw (fun k => k = V) w w' fp fp'
noncomputable def gSt (v : Vt) (its : List (Nat × Nat)) (d : Disk.Dk) : Gst := gtM v.key v.n (d, 0, F0 v.n v.top, fun _ => zn) (dnL v.n its (topL v.n))
noncomputable def wSt (v : Vt) (its : List (Nat × Nat)) (bk : Nat → Option (List Int)) (d : Disk.Dk) : Wst := wrL v.key v.n bk (gSt v its d).2.2.2 ((gSt v its d).1, v.nx, 0, (gSt v its d).2.2.1) its
noncomputable def updC (v : Vt) (its : List (Nat × Nat)) (bk : Nat → Option (List Int)) (d : Disk.Dk) : Disk.Dk × Int × Int × Rf :=
  if (gSt v its d).2.1 ≠ 0 then ((gSt v its d).1, v.nx, (gSt v its d).2.1, zr) else
  if wnb v its.length = true then ((gSt v its d).1, v.nx, 15, zr) else
  if (wSt v its bk d).2.2.1 ≠ 0 then ((wSt v its bk d).1, (wSt v its bk d).2.1, (wSt v its bk d).2.2.1, zr) else
  ((wSt v its bk d).1, (wSt v its bk d).2.1, 0, (wSt v its bk d).2.2.2 (itm v.n (topL v.n) 0))
end Go.Proofs.YtnicgmimhgbcfaaGreatDoor
