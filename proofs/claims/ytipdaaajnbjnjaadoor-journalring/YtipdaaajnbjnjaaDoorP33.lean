/-
  What the law's images answers: blocks filled up with noughts, in new memory. And what follows it.
-/
import Derived.Test.YtipdaaajnbjnjaaDoorP28
namespace Go.Proofs.YtipdaaajnbjnjaaDoor
set_option maxRecDepth 100000
set_option linter.unusedVariables false
open Go.RowKit Plain
theorem grown_alloc {w w' : World} {o : Obj} {row : Option Nat} (h : (w.alloc o).grownBy w' row) : w.grownBy w' row :=
  ⟨h.os, h.tape, h.output, Nat.le_trans (by simp) h.size, fun k hk hn => (h.block k (by simp; omega) hn).trans (Below.heap_alloc w o k hk)⟩
/-- One thing appended to a row of one's own. -/
theorem wpList_appR {ops : Array Oper} {rest : List Oper} {o : Oper} {act : Act} {w : World} {Q : Exit → Act → World → Prop} (t e : TypeId) (ht : Tryd.prog.underlying t = some (.slice e)) (sz bytes : Nat) (z : Value) (hi : (Tryd.prog.info? e).map (fun i => (i.zero, i.size, i.bytes)) = some (some z, sz, bytes)) (hzs : z.cells.size = sz) (hsz : 0 < sz) (hgd : o.guard = none) (s x : Operand)
    (ho : o.op = .call { callee := .builtin .append, args := #[s, x], argTypes := #[t, t] }) (B n : Nat) (v : Value) (xs cs : List Value) (wn : World) (hs : act.eval s = v) (hx : act.eval x = .slice (some ⟨wn.heap.size, 0, none⟩) 1 1) (hw : w = wn.alloc (.cells cs.toArray e)) (hown : wn.ownsRow B e sz v n xs) (hcs : cs.length = sz) (h1 : ∀ u ∈ cs, u.oneCell' = true) (hn : n ≤ 1000000) (hby : bytes ≤ 1000) (hb0 : 0 < bytes) (hB : B ≤ wn.heap.size)
    (h : ∀ v' w', w'.ownsRow B e sz v' (n + 1) (xs ++ cs) → wn.grownBy w' v.ownBlock → wpList Tryd.prog ops Q rest (act.put o.dst v') w') : wpList Tryd.prog ops Q (o :: rest) act w := by
  obtain ⟨i0, hi1, hz0, hz1, hz2⟩ := info_parts hi
  subst hw
  have hm : (n + 1) * bytes ≤ 140737488355328 := Nat.le_trans (Nat.mul_le_mul (show n + 1 ≤ 1000001 by omega) hby) (by decide)
  refine wpList_append_own _ hgd s x t ho B e i0 z sz bytes ht hi1 hz0 hz1 hz2 hzs hsz v n xs hs (own_to hown ((Below.refl _ _).alloc (Nat.le_refl _) _)) ⟨wn.heap.size, 0, none⟩ 1 1 cs hx (by rw [hcs, Nat.one_mul]) (news_new wn cs e) h1 (by unfold maxLen; omega) hm (by simp; omega) ?_
  intro v' w' h2 h3 _
  exact h v' w' h2 (grown_alloc h3)
/-- How long, and which bytes. -/
def szP (short : Bool) (i : Nat) : Nat := if short = true ∧ i = 1 then 159 else 160
def imgP (short : Bool) (L : List (Int × List Int)) : List (Int × List Int) := L.mapIdx fun i x => (x.1, padTo x.2 (szP short i))
theorem len_imgP (short : Bool) (L : List (Int × List Int)) : (imgP short L).length = L.length := by simp [imgP]
theorem get_imgP (short : Bool) (L : List (Int × List Int)) (i : Nat) (h : i < L.length) : (imgP short L)[i]'(by rw [len_imgP]; exact h) = (L[i].1, padTo L[i].2 (szP short i)) := by simp [imgP]
theorem byt_padTo (L : List Int) (n : Nat) (h : Byt L) : Byt (padTo L n) := byt_app _ _ (byt_take L n h) (byt_zeros _)
/-- So far. -/
structure Ig (w wr : World) (short : Bool) (M : List Im) (k : Nat) (v : Value) (X : List Im) : Prop where
  im : OImgs wr w.heap.size v X
  len : X.length = k
  pls : X.map pl = (imgP short (M.map pl)).take k
  bel : Below w.heap.size w wr
theorem Ig.step {w wr wk w' : World} {short : Bool} {M : List Im} {k : Nat} {v v' : Value} {X : List Im} (h : Ig w wr short M k v X) (hk : k < M.length) (nn : Nat) (hnn : nn = szP short k) (hb : Below wr.heap.size wr wk) (hr : wk.heap[wr.heap.size]? = some (.cells ((padTo M[k].bs nn).map (Value.int .u8)).toArray 5 (0, 0))) (hn6 : N64 M[k].blk) (hB : Byt M[k].bs)
    (ho : w'.ownsRow w.heap.size 77 2 v' (k + 1) ((X.map imc).flatten ++ [.int .u64 M[k].blk, .slice (some ⟨wr.heap.size, 0, none⟩) nn nn])) (hg : wk.grownBy w' v.ownBlock) : Ig w w' short M (k + 1) v' (X ++ [⟨M[k].blk, some ⟨wr.heap.size, 0, none⟩, nn, nn, padTo M[k].bs nn⟩]) := by
  have hrow : wk.ownsRow w.heap.size 77 2 v X.length (X.map imc).flatten := own_to h.im.row hb
  have hnew : OIm wk w.heap.size ⟨M[k].blk, some ⟨wr.heap.size, 0, none⟩, nn, nn, padTo M[k].bs nn⟩ := by
    refine ⟨(Out.of_row (w := w) (w' := wk) (length_padTo _ _) ?_ h.bel.size hr (below_to h.bel hb)).2.1, byt_padTo _ _ hB, hn6⟩
    unfold maxLen szP at *
    split at hnn <;> omega
  refine ⟨⟨?_, fun m hm => ?_⟩, by simp [h.len], ?_, ?_⟩
  · have : (X ++ [(⟨M[k].blk, some ⟨wr.heap.size, 0, none⟩, nn, nn, padTo M[k].bs nn⟩ : Im)]).length = k + 1 := by simp [h.len]
    rw [this, List.map_append, List.flatten_append]
    simpa [imc] using ho
  · rcases List.mem_append.1 hm with hm | hm
    · exact ((h.im.byt m hm).to hb).grown hrow (by decide) hg
    · simp only [List.mem_cons, List.not_mem_nil, or_false] at hm
      subst hm
      exact hnew.grown hrow (by decide) hg
  · have hk2 : k < (imgP short (M.map pl)).length := by rw [len_imgP]; simpa using hk
    rw [List.map_append, h.pls, List.take_succ_eq_append_getElem hk2, get_imgP short (M.map pl) k (by simpa using hk)]
    simp [pl, hnn]
  · exact (below_to h.bel hb).grown hg (below_to h.bel hb).size (fun j hj => (own_blk hrow j hj).1)
end Go.Proofs.YtipdaaajnbjnjaaDoor
namespace Go.Proofs.YtipdaaajnbjnjaaDoor
set_option maxRecDepth 100000
set_option linter.unusedVariables false
open Go.RowKit Plain
def z160 : List Int := List.replicate 160 0
theorem len_z160 : z160.length = 160 := List.length_replicate
theorem byt_z160 : Byt z160 := byt_zeros 160
end Go.Proofs.YtipdaaajnbjnjaaDoor
