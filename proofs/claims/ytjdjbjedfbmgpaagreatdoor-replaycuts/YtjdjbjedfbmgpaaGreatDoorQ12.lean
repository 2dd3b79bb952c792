/-
 What slices.IndexFunc and slices.DeleteFunc leave of the writes under way. And what follows it.
-/
import Derived.Test.YtjdjbjedfbmgpaaGreatDoorQ10
import Derived.Test.YtjdjbjedfbmgpaaGreatDoorQ11
set_option linter.unusedVariables false
set_option maxRecDepth 100000
set_option maxRecDepth 100000
namespace Go.Proofs.YtjdjbjedfbmgpaaGreatDoor.Disk.Plain
end Go.Proofs.YtjdjbjedfbmgpaaGreatDoor.Disk.Plain
namespace Go.Proofs.YtjdjbjedfbmgpaaGreatDoor.Disk
open Go.RowKit Go.Proofs.YtjdjbjedfbmgpaaGreatDoor.Plain Go.Proofs.YtjdjbjedfbmgpaaGreatDoor.Disk.Plain
end Go.Proofs.YtjdjbjedfbmgpaaGreatDoor.Disk
namespace Go.Proofs.YtjdjbjedfbmgpaaGreatDoor.Disk.Plain
end Go.Proofs.YtjdjbjedfbmgpaaGreatDoor.Disk.Plain
namespace Go.Proofs.YtjdjbjedfbmgpaaGreatDoor.Disk
open Go.RowKit Go.Proofs.YtjdjbjedfbmgpaaGreatDoor.Plain Go.Proofs.YtjdjbjedfbmgpaaGreatDoor.Disk.Plain
end Go.Proofs.YtjdjbjedfbmgpaaGreatDoor.Disk
namespace Go.Proofs.YtjdjbjedfbmgpaaGreatDoor.Disk.Plain
end Go.Proofs.YtjdjbjedfbmgpaaGreatDoor.Disk.Plain
namespace Go.Proofs.YtjdjbjedfbmgpaaGreatDoor.Disk
open Go.RowKit Go.Proofs.YtjdjbjedfbmgpaaGreatDoor.Plain Go.Proofs.YtjdjbjedfbmgpaaGreatDoor.Disk.Plain
end Go.Proofs.YtjdjbjedfbmgpaaGreatDoor.Disk
namespace Go.Proofs.YtjdjbjedfbmgpaaGreatDoor.Disk.Plain
end Go.Proofs.YtjdjbjedfbmgpaaGreatDoor.Disk.Plain
namespace Go.Proofs.YtjdjbjedfbmgpaaGreatDoor.Disk
open Go.RowKit Go.Proofs.YtjdjbjedfbmgpaaGreatDoor.Plain Go.Proofs.YtjdjbjedfbmgpaaGreatDoor.Disk.Plain
end Go.Proofs.YtjdjbjedfbmgpaaGreatDoor.Disk
namespace Go.Proofs.YtjdjbjedfbmgpaaGreatDoor.Disk.Plain
end Go.Proofs.YtjdjbjedfbmgpaaGreatDoor.Disk.Plain
namespace Go.Proofs.YtjdjbjedfbmgpaaGreatDoor.Disk
open Go.RowKit Go.Proofs.YtjdjbjedfbmgpaaGreatDoor.Plain Go.Proofs.YtjdjbjedfbmgpaaGreatDoor.Disk.Plain
def Own4 (t : TypeId) : Prop := t = 85 ∨ t = 114 ∨ t = 118 ∨ t = 161
def Fr (w w' : World) : Prop := w.heap.size <= w'.heap.size /\ ∀ (k : Nat) (cs : Array Value) (t : TypeId) (fr : Nat × Nat), w.heap[k]? = some (.cells cs t fr) -> ¬ Own4 t -> w'.heap[k]? = w.heap[k]?
theorem Fr.own {w w' : World} (h : Fr w w') {base n : Nat} {e : TypeId} {sz : Nat} {v : Value} {xs : List Value} (ho : w.ownsRow base e sz v n xs) (he : ¬ Own4 e) : w'.ownsRow base e sz v n xs :=
 own_same ho (fun k hk => by
  rcases ho.2 with ⟨rfl, _⟩ | ⟨g, cap, cur, rfl, _, hg, _⟩
  ·simp [Value.ownBlock] at hk
  ·simp only [Value.ownBlock, Option.some.injEq] at hk
   subst hk
   exact h.2 _ _ _ _ hg he)
def Cm (w0 w : World) (D : Nat) (d : Dk) : Prop := ∃ fp, Cx w0 w D fp d
theorem Cm.foot {w0 w : World} {D : Nat} {d : Dk} (h : Cm w0 w D d) : ∃ fp, Cx w0 w D fp d /\ ∀ (k : Nat) (cs : Array Value) (t : TypeId) (fr : Nat × Nat), w.heap[k]? = some (.cells cs t fr) -> ¬ Own4 t -> ¬ fp k := by
 obtain ⟨fp, ⟨P, uv, ov, h1, h2⟩, hb, hlo, hhi⟩ := h
 refine ⟨Go.Proofs.YtjdjbjedfbmgpaaGreatDoor.Disk.foot D P uv ov, ⟨⟨P, uv, ov, h1, fun _ hk => hk⟩, hb, fun k hk => hlo k (h2 k hk), fun k hk => h1.lt k hk⟩, fun k cs t fr hk ht hf => ht ?_⟩
 rcases hf with rfl | rfl | hf | hf
 ·rw [h1.hd] at hk
  simp only [Option.some.injEq, Obj.cells.injEq] at hk
  exact .inl hk.2.1.symm
 ·obtain ⟨c, h3, _⟩ := h1.hp
  rw [h3] at hk
  simp only [Option.some.injEq, Obj.cells.injEq] at hk
  exact .inr (.inl hk.2.1.symm)
 ·rcases h1.hu.2 with ⟨e, _⟩ | ⟨g, cap, cur, e, _, hg, _⟩
  ·rw [e] at hf; simp [Value.ownBlock] at hf
  ·rw [e] at hf
   simp only [Value.ownBlock, Option.some.injEq] at hf
   subst hf
   rw [hg] at hk
   simp only [Option.some.injEq, Obj.cells.injEq] at hk
   exact .inr (.inr (.inl hk.2.1.symm))
 ·rcases h1.ho.2 with ⟨e, _⟩ | ⟨g, cap, cur, e, _, hg, _⟩
  ·rw [e] at hf; simp [Value.ownBlock] at hf
  ·rw [e] at hf
   simp only [Value.ownBlock, Option.some.injEq] at hf
   subst hf
   rw [hg] at hk
   simp only [Option.some.injEq, Obj.cells.injEq] at hk
   exact .inr (.inr (.inr hk.2.1.symm))
theorem Cm.step {w0 w w' : World} {D : Nat} {d : Dk} (h : Cm w0 w D d) (hb : Below w.heap.size w w') : Cm w0 w' D d := by
 obtain ⟨fp, c⟩ := h
 exact ⟨fp, c.step hb⟩
theorem fr_fol {w w' : World} {fp fp' : Nat -> Prop} (hf : ∀ (k : Nat) (cs : Array Value) (t : TypeId) (fr : Nat × Nat), w.heap[k]? = some (.cells cs t fr) -> ¬ Own4 t -> ¬ fp k) (h : Fol w fp w' fp') : Fr w w' :=
 ⟨h.t.size, fun k cs t fr hk ht => h.t.block k (Array.getElem?_eq_some_iff.1 hk).1 (hf k cs t fr hk ht)⟩
structure J (k : Nat) (d : Dk) (r : Rd) : Prop where
 n : r.n = d.n
 pl : ∀ i, rat r.done i = d.pl i
 way : r.way = d.uw
 down : r.down = d.down
 st : d.st = true -> r.left = d.left
 no : d.st = false -> r.left = -1
 lo : 0 <= d.left /\ d.left <= 9223372036854775807
 ops : r.ops = d.ops
 l1 : r.done.length + r.way.length <= k
 l2 : r.ops.length <= k
theorem J.on {k : Nat} {d : Dk} {r : Rd} (h : J k d r) : J (k + 1) d r := ⟨h.n, h.pl, h.way, h.down, h.st, h.no, h.lo, h.ops, by have := h.l1; omega, by have := h.l2; omega⟩
theorem j_new (n : Nat) : J 0 (dk0 n) (rd0 n) := ⟨rfl, fun _ => rfl, rfl, rfl, fun h => by simp [dk0] at h, fun _ => rfl, by simp [dk0], rfl, Nat.le_refl _, Nat.le_refl _⟩
theorem oneR {w : World} {v : Value} {L : List (Nat × List Int)} (h : Rw w v L) : v.oneCell' = true := one_own h
theorem oneO {w : World} {v : Value} {L : List (Int × Int)} (h : Ro w v L) : v.oneCell' = true := one_own h
end Go.Proofs.YtjdjbjedfbmgpaaGreatDoor.Disk
