/-
  A vault in memory, told plainly: its cells, its disk, its shape; what a call leaves of it; disk, sealing and digesting as letters filled.
-/
import Derived.Test.YtnicgmimhgbcfaaGreatDoorDC
import Derived.Test.YtnicgmimhgbcfaaGreatDoorLS
import Derived.Test.YtnicgmimhgbcfaaGreatDoorAA
import Derived.Test.YtnicgmimhgbcfaaGreatDoorGB
import Derived.Test.YtnicgmimhgbcfaaGreatDoorVA
namespace Go.Proofs.YtnicgmimhgbcfaaGreatDoor
set_option linter.unusedVariables false
set_option maxRecDepth 100000
open Go.RowKit Plain Go.Proofs.YtnicgmimhgbcfaaGreatDoor.Shap.Plain

/-- A vault, but for its disk. -/
structure Vt where
  key : List Int
  n : Nat
  top : Rf
  nx : Int
  lim : Int
structure Vt.Ok (v : Vt) : Prop where
  key : v.key.length = 32
  kb : Byt v.key
  lo : 1 ≤ v.n
  hi : v.n ≤ 1024
  top : OkR v.top
  nx : 0 ≤ v.nx ∧ v.nx ≤ 18446744073709551615
  lim : 0 ≤ v.lim ∧ v.lim ≤ 9223372036854775807
/-- Its cells. -/
def vcs (D : Nat) (v : Vt) (sa : Option Addr) (sc : Nat) : List Value :=
  .pointer (some ⟨D, 0, none⟩) :: (v.key.map (Value.int .u8) ++ (.int .u64 (v.n : Int) :: .slice sa (wid v.n).length sc :: (rc v.top ++ [.int .u64 v.nx, .int .u64 v.lim])))
/-- A vault lies in block V, its disk in D. -/
structure VC (w0 w : World) (V D : Nat) (fp : Nat → Prop) (v : Vt) (d : Disk.Dk) (sa : Option Addr) (sc : Nat) : Prop where
  cx : Disk.Cx w0 w D fp d
  row : w.heap[V]? = some (.cells (vcs D v sa sc).toArray 102 (0, 0))
  ints : Shap.Ints w sa (wid v.n).length (wid v.n)
  lo : w0.heap.size ≤ V
  nV : ¬ fp V
  nS : ∀ ad, sa = some ad → ¬ fp ad.block ∧ ad.block ≠ V ∧ w0.heap.size ≤ ad.block
  cells : ∀ k, fp k → ∃ cs t, w.heap[k]? = some (.cells cs t (0, 0))
  ok : v.Ok
  fit : 2 * off v.n (topL v.n + 1) ≤ d.n
  dig : Dig.Tabs w0
  tab : Seal.Tab w0
/-- What follows: nothing has turned but the disk's blocks and those of S; the disk has taken none of another's. -/
structure Fw (S : Nat → Prop) (w w' : World) (fp fp' : Nat → Prop) : Prop where
  t : Disk.Turned (fun k => fp k ∨ S k) w w'
  k : ∀ k, k < w.heap.size → ¬ fp k → ¬ fp' k
/-- Nothing besides. -/
def No (k : Nat) : Prop := False
theorem Fw.refl (S : Nat → Prop) (w : World) (fp : Nat → Prop) : Fw S w w fp fp := ⟨Disk.Turned.refl _ _, fun _ _ h => h⟩
theorem Fw.below {w w' : World} (S : Nat → Prop) (fp : Nat → Prop) (h : Below w.heap.size w w') : Fw S w w' fp fp := ⟨Disk.Turned.of_below h, fun _ _ h => h⟩
theorem Fw.size {S : Nat → Prop} {w w' : World} {fp fp' : Nat → Prop} (h : Fw S w w' fp fp') : w.heap.size ≤ w'.heap.size := h.t.size
theorem Fw.block {S : Nat → Prop} {w w' : World} {fp fp' : Nat → Prop} (h : Fw S w w' fp fp') {k : Nat} (hk : k < w.heap.size) (h1 : ¬ fp k) (h2 : ¬ S k) : w'.heap[k]? = w.heap[k]? := h.t.block k hk (fun h => h.elim h1 h2)
theorem Fw.trans {S : Nat → Prop} {a b c : World} {fp fp' fp'' : Nat → Prop} (h : Fw S a b fp fp') (k : Fw S b c fp' fp'') : Fw S a c fp fp'' := by
  refine ⟨⟨k.t.os.trans h.t.os, k.t.tape.trans h.t.tape, k.t.output.trans h.t.output, Nat.le_trans h.t.size k.t.size, fun i hi hn => ?_⟩, fun i hi hn => ?_⟩
  · have h1 : ¬ fp i := fun hf => hn (.inl hf)
    have h2 : ¬ S i := fun hf => hn (.inr hf)
    exact (k.block (Nat.lt_of_lt_of_le hi h.size) (h.k i hi h1) h2).trans (h.block hi h1 h2)
  · exact k.k i (Nat.lt_of_lt_of_le hi h.size) (h.k i hi hn)
theorem Fw.wider {S S' : Nat → Prop} {w w' : World} {fp fp' : Nat → Prop} (h : Fw S w w' fp fp') (hs : ∀ k, k < w.heap.size → S k → S' k) : Fw S' w w' fp fp' :=
  ⟨⟨h.t.os, h.t.tape, h.t.output, h.t.size, fun i hi hn => h.t.block i hi (fun hf => hn (hf.imp id (hs i hi)))⟩, h.k⟩
theorem Fw.of_fol {w w' : World} {fp fp' : Nat → Prop} (h : Disk.Fol w fp w' fp') (S : Nat → Prop) : Fw S w w' fp fp' :=
  ⟨⟨h.t.os, h.t.tape, h.t.output, h.t.size, fun i hi hn => h.t.block i hi (fun hf => hn (.inl hf))⟩, h.k⟩
theorem Fw.of_but {w w' : World} {G : Nat} (h : But G w w') (fp : Nat → Prop) : Fw (fun k => k = G) w w' fp fp :=
  ⟨⟨h.os, h.tape, h.output, h.size, fun i hi hn => h.block i hi (fun e => hn (.inr e))⟩, fun _ _ h => h⟩

/-- Ints stay where their block stays. -/
theorem ints_same {w w' : World} {a : Option Addr} {len : Nat} {L : List Int} (h : Shap.Ints w a len L) (hs : ∀ ad, a = some ad → w'.heap[ad.block]? = w.heap[ad.block]?) (hz : w.heap.size ≤ w'.heap.size) : Shap.Ints w' a len L := by
  refine ⟨h.1, fun hp => ?_⟩
  obtain ⟨b, o, e, hlt, hc⟩ := h.2 hp
  refine ⟨b, o, e, Nat.lt_of_lt_of_le hlt hz, fun i hi => ?_⟩
  have hq : w'.cell? ⟨b, o + i, none⟩ = w.cell? ⟨b, o + i, none⟩ := World.cell?_of_block (hs ⟨b, o, none⟩ e)
  rw [hq]
  exact hc i hi
theorem ints_lt {w : World} {a : Option Addr} {len : Nat} {L : List Int} (h : Shap.Ints w a len L) (hp : 0 < len) : ∀ ad, a = some ad → ad.block < w.heap.size := by
  obtain ⟨b, o, e, hlt, hc⟩ := h.2 hp
  intro ad had
  rw [e] at had
  cases had
  exact hlt
theorem wid_pos (n : Nat) : 0 < (wid n).length := by simp [wid]
/-- A disk's footprint cut to its own blocks, which are cells. -/
theorem tight {w0 w : World} {D : Nat} {fp : Nat → Prop} {d : Disk.Dk} (h : Disk.Cx w0 w D fp d) : ∃ fp', Disk.Cx w0 w D fp' d ∧ (∀ k, fp' k → fp k) ∧ ∀ k, fp' k → ∃ cs t, w.heap[k]? = some (.cells cs t (0, 0)) := by
  obtain ⟨P, uv, ov, h1, h2⟩ := h.is
  refine ⟨Disk.foot D P uv ov, ⟨⟨P, uv, ov, h1, fun _ h => h⟩, h.bel, fun k hk => h.lo k (h2 k hk), fun k hk => h.hi k (h2 k hk)⟩, h2, ?_⟩
  rintro k (rfl | rfl | hk | hk)
  · exact ⟨_, _, h1.hd⟩
  · obtain ⟨cs, h3, _⟩ := h1.hp
    exact ⟨_, _, h3⟩
  · rcases h1.hu.2 with ⟨rfl, _⟩ | ⟨g, cap, cur, rfl, _, hg, _⟩
    · cases hk
    · cases hk
      exact ⟨_, _, hg⟩
  · rcases h1.ho.2 with ⟨rfl, _⟩ | ⟨g, cap, cur, rfl, _, hg, _⟩
    · cases hk
    · cases hk
      exact ⟨_, _, hg⟩
theorem VC.lt {w0 w : World} {V D : Nat} {fp : Nat → Prop} {v : Vt} {d : Disk.Dk} {sa : Option Addr} {sc : Nat} (h : VC w0 w V D fp v d sa sc) : V < w.heap.size := (Array.getElem?_eq_some_iff.1 h.row).1
/-- What a call of the disk leaves. -/
theorem VC.fol {w0 w w' : World} {V D : Nat} {fp fp' : Nat → Prop} {v : Vt} {d d' : Disk.Dk} {sa : Option Addr} {sc : Nat} (h : VC w0 w V D fp v d sa sc) (c : Disk.Cx w0 w' D fp' d') (f : Disk.Fol w fp w' fp') (hd : d'.n = d.n) :
    ∃ fp'', VC w0 w' V D fp'' v d' sa sc ∧ Fw No w w' fp fp'' ∧ ∀ k, fp'' k → fp' k := by
  obtain ⟨fp'', c', hs, hcs⟩ := tight c
  have hS := ints_lt h.ints (wid_pos _)
  refine ⟨fp'', ⟨c', (f.t.block V h.lt h.nV).trans h.row, ints_same h.ints (fun ad e => f.t.block _ (hS ad e) (h.nS ad e).1) f.t.size, h.lo, fun hf => f.k V h.lt h.nV (hs _ hf), fun ad e => ⟨fun hf => f.k _ (hS ad e) (h.nS ad e).1 (hs _ hf), (h.nS ad e).2⟩, hcs, h.ok, by rw [hd]; exact h.fit, h.dig, h.tab⟩, ?_, hs⟩
  exact ⟨(Fw.of_fol f No).t, fun k hk hn hf => f.k k hk hn (hs _ hf)⟩
theorem VC.below {w0 w w' : World} {V D : Nat} {fp : Nat → Prop} {v : Vt} {d : Disk.Dk} {sa : Option Addr} {sc : Nat} (h : VC w0 w V D fp v d sa sc) (hb : Below w.heap.size w w') : VC w0 w' V D fp v d sa sc :=
  ⟨h.cx.step hb, (hb.block V h.lt).trans h.row, h.ints.below hb, h.lo, h.nV, h.nS, fun k hk => by
    obtain ⟨cs, t, e⟩ := h.cells k hk
    exact ⟨cs, t, (hb.block k (Array.getElem?_eq_some_iff.1 e).1).trans e⟩, h.ok, h.fit, h.dig, h.tab⟩
theorem VC.set {w0 w w' : World} {V D : Nat} {fp : Nat → Prop} {v : Vt} {d : Disk.Dk} {sa : Option Addr} {sc : Nat} (h : VC w0 w V D fp v d sa sc) (G : Nat) (hb : But G w w') (h1 : ¬ fp G) (h2 : G ≠ V) (h3 : ∀ ad, sa = some ad → ad.block ≠ G) (h4 : w0.heap.size ≤ G) : VC w0 w' V D fp v d sa sc := by
  have hS := ints_lt h.ints (wid_pos _)
  have hne : ∀ k, fp k → k ≠ G := fun k hk e => h1 (e ▸ hk)
  refine ⟨⟨h.cx.is.same (fun k hk hl => hb.block k hl (hne k hk)), ?_, h.cx.lo, fun k hk => Nat.lt_of_lt_of_le (h.cx.hi k hk) hb.size⟩, (hb.block V h.lt (fun e => h2 e.symm)).trans h.row, ints_same h.ints (fun ad e => hb.block _ (hS ad e) (h3 ad e)) hb.size, h.lo, h.nV, h.nS, fun k hk => by
    obtain ⟨cs, t, e⟩ := h.cells k hk
    exact ⟨cs, t, (hb.block k (Array.getElem?_eq_some_iff.1 e).1 (hne k hk)).trans e⟩, h.ok, h.fit, h.dig, h.tab⟩
  have hl := h.cx.bel
  exact ⟨hb.os.trans hl.os, hb.tape.trans hl.tape, hb.output.trans hl.output, Nat.le_trans hl.size hb.size, fun k hk => (hb.block k (Nat.lt_of_lt_of_le hk hl.size) (by omega)).trans (hl.block k hk)⟩
theorem VC.drew {w0 w : World} {V D : Nat} {fp : Nat → Prop} {v : Vt} {d : Disk.Dk} {sa : Option Addr} {sc : Nat} (h : VC w0 w V D fp v d sa sc) : VC w0 w.drew V D fp v d sa sc := h.below ((Below.refl _ _).drew)
/-- Blocks that are no cells may turn: the vault stays. -/
theorem VC.grown {w0 w w' : World} {V D : Nat} {fp : Nat → Prop} {v : Vt} {d : Disk.Dk} {sa : Option Addr} {sc : Nat} {row : Option Nat} (h : VC w0 w V D fp v d sa sc) (hg : w.grownBy w' row) (hr : ∀ k, row = some k → w0.heap.size ≤ k ∧ ∃ o, w.heap[k]? = some o ∧ o.isCells = false) : VC w0 w' V D fp v d sa sc := by
  cases row with
  | none =>
    exact h.below ⟨hg.os, hg.tape, hg.output, hg.size, fun k hk => hg.block k hk (by simp)⟩
  | some G =>
    obtain ⟨hG, o, ho, hc⟩ := hr G rfl
    have hne : ∀ k cs t f, w.heap[k]? = some (.cells cs t f) → k ≠ G := fun k cs t f e e' => by
      subst e'
      rw [e] at ho
      cases ho
      cases hc
    refine h.set G ⟨hg.os, hg.tape, hg.output, hg.size, fun k hk hn => hg.block k hk (by simpa using hn)⟩ (fun hf => ?_) (fun e => hne V _ _ _ h.row e.symm) (fun ad e => ?_) hG
    · obtain ⟨cs, t, e⟩ := h.cells G hf
      exact hne G _ _ _ e rfl
    · obtain ⟨b, off, e', hlt, hcell⟩ := h.ints.2 (wid_pos _)
      rw [e] at e'
      cases e'
      intro e2
      have := hcell 0 (wid_pos _)
      simp only at e2
      subst e2
      unfold World.cell? at this
      rw [ho] at this
      cases o <;> simp_all [Obj.isCells]
end Go.Proofs.YtnicgmimhgbcfaaGreatDoor
