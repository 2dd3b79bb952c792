/-
  A vault in memory, told plainly: its cells, its disk, its shape; what a call leaves of it; disk, sealing and digesting as letters filled. And what follows it.
-/
import Derived.Test.YtmocfbglmahhjabGreatDoorT11
import Derived.Test.YtmocfbglmahhjabGreatDoorT16
import Derived.Test.YtmocfbglmahhjabGreatDoorT18
import Derived.Test.YtmocfbglmahhjabGreatDoorT21
import Derived.Test.YtmocfbglmahhjabGreatDoorT23
namespace Go.Proofs.YtmocfbglmahhjabGreatDoor
set_option maxRecDepth 100000
set_option linter.unusedVariables false
set_option maxRecDepth 100000
open Go.RowKit Plain Go.Proofs.YtmocfbglmahhjabGreatDoor.Shap.Plain
/-- A vault, but for its disk. -/
structure Vt where
  key : List Int
  n : Nat
  top : Rf
  nx : Int
  lim : Int
structure Vt.Ok (v : Vt) : Prop where
  key : v.key.length = 32
  kb : Byt v.key
  lo : 1 ≤ v.n
  hi : v.n ≤ 1024
  top : OkR v.top
  nx : 0 ≤ v.nx ∧ v.nx ≤ 18446744073709551615
  lim : 0 ≤ v.lim ∧ v.lim ≤ 9223372036854775807
/-- Its cells. -/
def vcs (D : Nat) (v : Vt) (sa : Option Addr) (sc : Nat) : List Value :=
  .pointer (some ⟨D, 0, none⟩) :: (v.key.map (Value.int .u8) ++ (.int .u64 (v.n : Int) :: .slice sa (wid v.n).length sc :: (rc v.top ++ [.int .u64 v.nx, .int .u64 v.lim])))
/-- A vault lies in block V, its disk in D. -/
structure VC (w0 w : World) (V D : Nat) (fp : Nat → Prop) (v : Vt) (d : Disk.Dk) (sa : Option Addr) (sc : Nat) : Prop where
  cx : Disk.Cx w0 w D fp d
  row : w.heap[V]? = some (.cells (vcs D v sa sc).toArray 63 (0, 0))
  ints : Shap.Ints w sa (wid v.n).length (wid v.n)
  lo : w0.heap.size ≤ V
  nV : ¬ fp V
  nS : ∀ ad, sa = some ad → ¬ fp ad.block ∧ ad.block ≠ V ∧ w0.heap.size ≤ ad.block
  cells : ∀ k, fp k → ∃ cs t, w.heap[k]? = some (.cells cs t (0, 0))
  ok : v.Ok
  fit : 2 * off v.n (topL v.n + 1) ≤ d.n
  dig : Dig.Tabs w0
  tab : Seal.Tab w0
/-- What follows: nothing has turned but the disk's blocks and those of S; the disk has taken none of another's. -/
structure Fw (S : Nat → Prop) (w w' : World) (fp fp' : Nat → Prop) : Prop where
  t : Disk.Turned (fun k => fp k ∨ S k) w w'
  k : ∀ k, k < w.heap.size → ¬ fp k → ¬ fp' k
/-- Nothing besides. -/
def No (k : Nat) : Prop := False
theorem Fw.refl (S : Nat → Prop) (w : World) (fp : Nat → Prop) : Fw S w w fp fp := ⟨Disk.Turned.refl _ _, fun _ _ h => h⟩
theorem Fw.below {w w' : World} (S : Nat → Prop) (fp : Nat → Prop) (h : Below w.heap.size w w') : Fw S w w' fp fp := ⟨Disk.Turned.of_below h, fun _ _ h => h⟩
theorem Fw.size {S : Nat → Prop} {w w' : World} {fp fp' : Nat → Prop} (h : Fw S w w' fp fp') : w.heap.size ≤ w'.heap.size := h.t.size
theorem Fw.block {S : Nat → Prop} {w w' : World} {fp fp' : Nat → Prop} (h : Fw S w w' fp fp') {k : Nat} (hk : k < w.heap.size) (h1 : ¬ fp k) (h2 : ¬ S k) : w'.heap[k]? = w.heap[k]? := h.t.block k hk (fun h => h.elim h1 h2)
theorem Fw.trans {S : Nat → Prop} {a b c : World} {fp fp' fp'' : Nat → Prop} (h : Fw S a b fp fp') (k : Fw S b c fp' fp'') : Fw S a c fp fp'' := by
  refine ⟨⟨k.t.os.trans h.t.os, k.t.tape.trans h.t.tape, k.t.output.trans h.t.output, Nat.le_trans h.t.size k.t.size, fun i hi hn => ?_⟩, fun i hi hn => ?_⟩
  · have h1 : ¬ fp i := fun hf => hn (.inl hf)
    have h2 : ¬ S i := fun hf => hn (.inr hf)
    exact (k.block (Nat.lt_of_lt_of_le hi h.size) (h.k i hi h1) h2).trans (h.block hi h1 h2)
  · exact k.k i (Nat.lt_of_lt_of_le hi h.size) (h.k i hi hn)
theorem Fw.wider {S S' : Nat → Prop} {w w' : World} {fp fp' : Nat → Prop} (h : Fw S w w' fp fp') (hs : ∀ k, k < w.heap.size → S k → S' k) : Fw S' w w' fp fp' :=
  ⟨⟨h.t.os, h.t.tape, h.t.output, h.t.size, fun i hi hn => h.t.block i hi (fun hf => hn (hf.imp id (hs i hi)))⟩, h.k⟩
theorem Fw.of_fol {w w' : World} {fp fp' : Nat → Prop} (h : Disk.Fol w fp w' fp') (S : Nat → Prop) : Fw S w w' fp fp' :=
  ⟨⟨h.t.os, h.t.tape, h.t.output, h.t.size, fun i hi hn => h.t.block i hi (fun hf => hn (.inl hf))⟩, h.k⟩
theorem Fw.of_but {w w' : World} {G : Nat} (h : But G w w') (fp : Nat → Prop) : Fw (fun k => k = G) w w' fp fp :=
  ⟨⟨h.os, h.tape, h.output, h.size, fun i hi hn => h.block i hi (fun e => hn (.inr e))⟩, fun _ _ h => h⟩
/-- Ints stay where their block stays. -/
theorem ints_same {w w' : World} {a : Option Addr} {len : Nat} {L : List Int} (h : Shap.Ints w a len L) (hs : ∀ ad, a = some ad → w'.heap[ad.block]? = w.heap[ad.block]?) (hz : w.heap.size ≤ w'.heap.size) : Shap.Ints w' a len L := by
  refine ⟨h.1, fun hp => ?_⟩
  obtain ⟨b, o, e, hlt, hc⟩ := h.2 hp
  refine ⟨b, o, e, Nat.lt_of_lt_of_le hlt hz, fun i hi => ?_⟩
  have hq : w'.cell? ⟨b, o + i, none⟩ = w.cell? ⟨b, o + i, none⟩ := World.cell?_of_block (hs ⟨b, o, none⟩ e)
  rw [hq]
  exact hc i hi
theorem ints_lt {w : World} {a : Option Addr} {len : Nat} {L : List Int} (h : Shap.Ints w a len L) (hp : 0 < len) : ∀ ad, a = some ad → ad.block < w.heap.size := by
  obtain ⟨b, o, e, hlt, hc⟩ := h.2 hp
  intro ad had
  rw [e] at had
  cases had
  exact hlt
theorem wid_pos (n : Nat) : 0 < (wid n).length := by simp [wid]
/-- A disk's footprint cut to its own blocks, which are cells. -/
theorem tight {w0 w : World} {D : Nat} {fp : Nat → Prop} {d : Disk.Dk} (h : Disk.Cx w0 w D fp d) : ∃ fp', Disk.Cx w0 w D fp' d ∧ (∀ k, fp' k → fp k) ∧ ∀ k, fp' k → ∃ cs t, w.heap[k]? = some (.cells cs t (0, 0)) := by
  obtain ⟨P, uv, ov, h1, h2⟩ := h.is
  refine ⟨Disk.foot D P uv ov, ⟨⟨P, uv, ov, h1, fun _ h => h⟩, h.bel, fun k hk => h.lo k (h2 k hk), fun k hk => h.hi k (h2 k hk)⟩, h2, ?_⟩
  rintro k (rfl | rfl | hk | hk)
  · exact ⟨_, _, h1.hd⟩
  · obtain ⟨cs, h3, _⟩ := h1.hp
    exact ⟨_, _, h3⟩
  · rcases h1.hu.2 with ⟨rfl, _⟩ | ⟨g, cap, cur, rfl, _, hg, _⟩
    · cases hk
    · cases hk
      exact ⟨_, _, hg⟩
  · rcases h1.ho.2 with ⟨rfl, _⟩ | ⟨g, cap, cur, rfl, _, hg, _⟩
    · cases hk
    · cases hk
      exact ⟨_, _, hg⟩
theorem VC.lt {w0 w : World} {V D : Nat} {fp : Nat → Prop} {v : Vt} {d : Disk.Dk} {sa : Option Addr} {sc : Nat} (h : VC w0 w V D fp v d sa sc) : V < w.heap.size := (Array.getElem?_eq_some_iff.1 h.row).1
/-- What a call of the disk leaves. -/
theorem VC.fol {w0 w w' : World} {V D : Nat} {fp fp' : Nat → Prop} {v : Vt} {d d' : Disk.Dk} {sa : Option Addr} {sc : Nat} (h : VC w0 w V D fp v d sa sc) (c : Disk.Cx w0 w' D fp' d') (f : Disk.Fol w fp w' fp') (hd : d'.n = d.n) :
    ∃ fp'', VC w0 w' V D fp'' v d' sa sc ∧ Fw No w w' fp fp'' ∧ ∀ k, fp'' k → fp' k := by
  obtain ⟨fp'', c', hs, hcs⟩ := tight c
  have hS := ints_lt h.ints (wid_pos _)
  refine ⟨fp'', ⟨c', (f.t.block V h.lt h.nV).trans h.row, ints_same h.ints (fun ad e => f.t.block _ (hS ad e) (h.nS ad e).1) f.t.size, h.lo, fun hf => f.k V h.lt h.nV (hs _ hf), fun ad e => ⟨fun hf => f.k _ (hS ad e) (h.nS ad e).1 (hs _ hf), (h.nS ad e).2⟩, hcs, h.ok, by rw [hd]; exact h.fit, h.dig, h.tab⟩, ?_, hs⟩
  exact ⟨(Fw.of_fol f No).t, fun k hk hn hf => f.k k hk hn (hs _ hf)⟩
theorem VC.below {w0 w w' : World} {V D : Nat} {fp : Nat → Prop} {v : Vt} {d : Disk.Dk} {sa : Option Addr} {sc : Nat} (h : VC w0 w V D fp v d sa sc) (hb : Below w.heap.size w w') : VC w0 w' V D fp v d sa sc :=
  ⟨h.cx.step hb, (hb.block V h.lt).trans h.row, h.ints.below hb, h.lo, h.nV, h.nS, fun k hk => by
    obtain ⟨cs, t, e⟩ := h.cells k hk
    exact ⟨cs, t, (hb.block k (Array.getElem?_eq_some_iff.1 e).1).trans e⟩, h.ok, h.fit, h.dig, h.tab⟩
theorem VC.set {w0 w w' : World} {V D : Nat} {fp : Nat → Prop} {v : Vt} {d : Disk.Dk} {sa : Option Addr} {sc : Nat} (h : VC w0 w V D fp v d sa sc) (G : Nat) (hb : But G w w') (h1 : ¬ fp G) (h2 : G ≠ V) (h3 : ∀ ad, sa = some ad → ad.block ≠ G) (h4 : w0.heap.size ≤ G) : VC w0 w' V D fp v d sa sc := by
  have hS := ints_lt h.ints (wid_pos _)
  have hne : ∀ k, fp k → k ≠ G := fun k hk e => h1 (e ▸ hk)
  refine ⟨⟨h.cx.is.same (fun k hk hl => hb.block k hl (hne k hk)), ?_, h.cx.lo, fun k hk => Nat.lt_of_lt_of_le (h.cx.hi k hk) hb.size⟩, (hb.block V h.lt (fun e => h2 e.symm)).trans h.row, ints_same h.ints (fun ad e => hb.block _ (hS ad e) (h3 ad e)) hb.size, h.lo, h.nV, h.nS, fun k hk => by
    obtain ⟨cs, t, e⟩ := h.cells k hk
    exact ⟨cs, t, (hb.block k (Array.getElem?_eq_some_iff.1 e).1 (hne k hk)).trans e⟩, h.ok, h.fit, h.dig, h.tab⟩
  have hl := h.cx.bel
  exact ⟨hb.os.trans hl.os, hb.tape.trans hl.tape, hb.output.trans hl.output, Nat.le_trans hl.size hb.size, fun k hk => (hb.block k (Nat.lt_of_lt_of_le hk hl.size) (by omega)).trans (hl.block k hk)⟩
theorem VC.drew {w0 w : World} {V D : Nat} {fp : Nat → Prop} {v : Vt} {d : Disk.Dk} {sa : Option Addr} {sc : Nat} (h : VC w0 w V D fp v d sa sc) : VC w0 w.drew V D fp v d sa sc := h.below ((Below.refl _ _).drew)
/-- Blocks that are no cells may turn: the vault stays. -/
theorem VC.grown {w0 w w' : World} {V D : Nat} {fp : Nat → Prop} {v : Vt} {d : Disk.Dk} {sa : Option Addr} {sc : Nat} {row : Option Nat} (h : VC w0 w V D fp v d sa sc) (hg : w.grownBy w' row) (hr : ∀ k, row = some k → w0.heap.size ≤ k ∧ ∃ o, w.heap[k]? = some o ∧ o.isCells = false) : VC w0 w' V D fp v d sa sc := by
  cases row with
  | none =>
    exact h.below ⟨hg.os, hg.tape, hg.output, hg.size, fun k hk => hg.block k hk (by simp)⟩
  | some G =>
    obtain ⟨hG, o, ho, hc⟩ := hr G rfl
    have hne : ∀ k cs t f, w.heap[k]? = some (.cells cs t f) → k ≠ G := fun k cs t f e e' => by
      subst e'
      rw [e] at ho
      cases ho
      cases hc
    refine h.set G ⟨hg.os, hg.tape, hg.output, hg.size, fun k hk hn => hg.block k hk (by simpa using hn)⟩ (fun hf => ?_) (fun e => hne V _ _ _ h.row e.symm) (fun ad e => ?_) hG
    · obtain ⟨cs, t, e⟩ := h.cells G hf
      exact hne G _ _ _ e rfl
    · obtain ⟨b, off, e', hlt, hcell⟩ := h.ints.2 (wid_pos _)
      rw [e] at e'
      cases e'
      intro e2
      have := hcell 0 (wid_pos _)
      simp only at e2
      subst e2
      unfold World.cell? at this
      rw [ho] at this
      cases o <;> simp_all [Obj.isCells]
end Go.Proofs.YtmocfbglmahhjabGreatDoor
namespace Go.Proofs.YtmocfbglmahhjabGreatDoor
set_option maxRecDepth 100000
set_option linter.unusedVariables false
open Go.RowKit Plain Go.Proofs.YtmocfbglmahhjabGreatDoor.Shap.Plain
theorem vcs_at (D : Nat) (v : Vt) (sa : Option Addr) (sc : Nat) (hk : v.key.length = 32) (ht : v.top.d.length = 32) :
    (vcs D v sa sc)[0]? = some (.pointer (some ⟨D, 0, none⟩)) ∧ (∀ j x, (v.key.map (Value.int .u8))[j]? = some x → (vcs D v sa sc)[1 + j]? = some x) ∧ (vcs D v sa sc)[33]? = some (.int .u64 (v.n : Int)) ∧ (vcs D v sa sc)[34]? = some (.slice sa (wid v.n).length sc) ∧
    (∀ j x, (rc v.top)[j]? = some x → (vcs D v sa sc)[35 + j]? = some x) ∧ (vcs D v sa sc)[68]? = some (.int .u64 v.nx) ∧ (vcs D v sa sc)[69]? = some (.int .u64 v.lim) := by
  have hr : (rc v.top).length = 33 := by simp [rc, ht]
  have hm : (v.key.map (Value.int .u8)).length = 32 := by simp [hk]
  have key : ∀ j, (vcs D v sa sc)[33 + j]? = (Value.int .u64 (v.n : Int) :: .slice sa (wid v.n).length sc :: (rc v.top ++ [.int .u64 v.nx, .int .u64 v.lim]))[j]? := fun j => by
    rw [vcs, show 33 + j = (32 + j) + 1 by omega, List.getElem?_cons_succ, List.getElem?_append_right (by omega), hm]
    congr 1
    omega
  refine ⟨rfl, fun j x hx => ?_, key 0, key 1, fun j x hx => ?_, ?_, ?_⟩
  · have hj := (List.getElem?_eq_some_iff.1 hx).1
    rw [vcs, Nat.add_comm, List.getElem?_cons_succ, List.getElem?_append_left hj]
    exact hx
  · have hj := (List.getElem?_eq_some_iff.1 hx).1
    rw [show 35 + j = 33 + (j + 2) by omega, key, List.getElem?_cons_succ, List.getElem?_cons_succ, List.getElem?_append_left hj]
    exact hx
  · rw [show 68 = 33 + (33 + 2) by rfl, key, List.getElem?_cons_succ, List.getElem?_cons_succ, List.getElem?_append_right (by omega), hr]
    rfl
  · rw [show 69 = 33 + (34 + 2) by rfl, key, List.getElem?_cons_succ, List.getElem?_cons_succ, List.getElem?_append_right (by omega), hr]
    rfl
/-- What is read of a vault's cells. -/
structure Vrd (w : World) (V D : Nat) (v : Vt) (sa : Option Addr) (sc : Nat) : Prop where
  disk : w.cell? ⟨V, 0, none⟩ = some (.pointer (some ⟨D, 0, none⟩))
  key : w.rangeAt V 1 (v.key.map (Value.int .u8))
  leaves : w.cell? ⟨V, 33, none⟩ = some (.int .u64 (v.n : Int))
  shp : w.rangeAt V 34 [.slice sa (wid v.n).length sc]
  top : w.rangeAt V 35 (rc v.top)
  nx : w.cell? ⟨V, 68, none⟩ = some (.int .u64 v.nx)
  lim : w.cell? ⟨V, 69, none⟩ = some (.int .u64 v.lim)
theorem vrd_of {w : World} {V D : Nat} {v : Vt} {sa : Option Addr} {sc : Nat} (h : w.heap[V]? = some (.cells (vcs D v sa sc).toArray 63 (0, 0))) (ok : v.Ok) : Vrd w V D v sa sc := by
  obtain ⟨a0, a1, a2, a3, a4, a5, a6⟩ := vcs_at D v sa sc ok.key ok.top.ld
  have hc : ∀ i x, (vcs D v sa sc)[i]? = some x → w.cell? ⟨V, i, none⟩ = some x := fun i x hx => by
    rw [cell_of_row _ _ _ _ _ _ h]
    simpa using hx
  refine ⟨hc _ _ a0, fun j x hx => hc _ _ (a1 j x hx), hc _ _ a2, fun j x hx => ?_, fun j x hx => hc _ _ (a4 j x hx), hc _ _ a5, hc _ _ a6⟩
  cases j with
  | zero => simp at hx; subst hx; exact hc _ _ a3
  | succ j => simp at hx
theorem VC.rd {w0 w : World} {V D : Nat} {fp : Nat → Prop} {v : Vt} {d : Disk.Dk} {sa : Option Addr} {sc : Nat} (h : VC w0 w V D fp v d sa sc) : Vrd w V D v sa sc := vrd_of h.row h.ok
theorem infoShp : (Tryz.prog.info? 58).map (·.size) = some 1 := by kernel_rfl
theorem infoRef : (Tryz.prog.info? 35).map (·.size) = some 33 := by kernel_rfl
theorem infoSum : (Tryz.prog.info? 23).map (·.size) = some 32 := by kernel_rfl
/-- A row loaded from the midst of a block. -/
theorem wpList_ldMid {ops : Array Oper} {rest : List Oper} {o : Oper} {a : Act} {w : World} {Q : Exit → Act → World → Prop} (hg : o.guard = none) (t : TypeId) (d : TypeDesc) (x : Operand) (ho : o.op = .load t x) (hu : Tryz.prog.underlying t = some d) (hd : d.isRow = true) (b off : Nat) (hx : a.eval x = .pointer (some ⟨b, off, none⟩)) (cs : List Value) (hi : (Tryz.prog.info? t).map (·.size) = some cs.length) (hc : w.rangeAt b off cs)
    (h : wpList Tryz.prog ops Q rest (a.put o.dst (.agg cs.toArray)) w) : wpList Tryz.prog ops Q (o :: rest) a w := wpList_run hg _ _ (exec_load_mid t d x ho hu hd b off hx cs hi hc) h
theorem otherSide_any (r : Rf) (w : World) (hr : OkR r) : Calls Tryz.prog 33 #[.int .u64 r.s] w fun e w' => e = .returned (.int .i64 (ns r : Nat)) ∧ w = w' := by
  have HS : Box (∀ x, Calls Tryz.prog 45 #[.int .u64 r.s] x fun e w' => e = .returned (.int .i64 (r.s % 2)) ∧ x = w') := ⟨fun x => side_any r.s x hr.hs⟩
  by_cases h0 : r.s = 0
  · have e : ns r = 0 := by simp [ns, h0]
    rw [h0, e]
    go_enter Tryz.func33, Tryz.ntmps33
    go_wp2
    go_ret
    exact ⟨rfl, rfl⟩
  · have hq : (r.s == 0) = false := by simpa using h0
    have e : ((ns r : Nat) : Int) = 1 - r.s % 2 := by
      unfold ns sd
      rw [if_neg h0]
      omega
    rw [e]
    have hw : IntKind.i64.wrap (1 - r.s % 2) = 1 - r.s % 2 := by rw [IntKind.wrap_i64]; omega
    clear hr h0 e
    go_enter Tryz.func33, Tryz.ntmps33
    go_wp2_with (go_at_call 45; refine (HS.out _).mono ?_; rintro e w' ⟨rfl, rfl⟩)
    go_ret
    exact ⟨rfl, rfl⟩
/-- How many items there are, of a shape that is no nonsense. -/
theorem items_of (n : Nat) (a : Option Addr) (cap : Nat) (w : World) (h1 : 1 ≤ n) (h2 : n ≤ 1024) (hI : Shap.Ints w a (wid n).length (wid n)) :
    Calls Tryz.prog 29 #[.agg #[.slice a (wid n).length cap]] w fun e w' => e = .returned (.int .i64 (off n (topL n + 1) : Nat)) ∧ Below w.heap.size w w' := by
  have := Shap.items_any a (wid n).length cap (wid n) w hI (shp_wid n h1 h2)
  rw [wid_items n h1 h2] at this
  exact this
theorem off_le (n : Nat) (h1 : 1 ≤ n) (h2 : n ≤ 1024) : 2 ≤ off n (topL n + 1) ∧ off n (topL n + 1) ≤ 6144 := by
  have h := shp_wid n h1 h2
  have e := wid_items n h1 h2
  have hs := h.sum (wid n).length
  have h6 := h.hi
  have hm := h.mono 2 (wid n).length h.lo
  have b0 := h.bd 0 (by have := h.lo; omega)
  have b1 := h.bd 1 (by have := h.lo; omega)
  have e2 : sumTo (wid n) 2 = (wid n).getD 0 0 + (wid n).getD 1 0 := by simp [sumTo]
  omega
theorem places_any (n : Nat) (a : Option Addr) (cap : Nat) (w : World) (h1 : 1 ≤ n) (h2 : n ≤ 1024) (hI : Shap.Ints w a (wid n).length (wid n)) :
    Calls Tryz.prog 16 #[.agg #[.slice a (wid n).length cap]] w fun e w' => e = .returned (.int .i64 (2 * off n (topL n + 1) : Nat)) ∧ Below w.heap.size w w' := by
  have HC : Box (Calls Tryz.prog 29 #[.agg #[.slice a (wid n).length cap]] (w.alloc (.cells #[.slice a (wid n).length cap] 58)) fun e w' => e = .returned (.int .i64 (off n (topL n + 1) : Nat)) ∧ Below (w.alloc (.cells #[.slice a (wid n).length cap] 58)).heap.size (w.alloc (.cells #[.slice a (wid n).length cap] 58)) w') := ⟨items_of n a cap _ h1 h2 (hI.below (Shap.box_below _ _))⟩
  have HB : Box (Below w.heap.size w (w.alloc (.cells #[.slice a (wid n).length cap] 58))) := ⟨Shap.box_below _ _⟩
  have hr : (w.alloc (.cells #[.slice a (wid n).length cap] 58)).heap[w.heap.size]? = some (.cells #[.slice a (wid n).length cap] 58 (0, 0)) := al_at rfl
  have ho := off_le n h1 h2
  have hw : IntKind.i64.wrap (2 * ((off n (topL n + 1) : Nat) : Int)) = ((2 * off n (topL n + 1) : Nat) : Int) := by rw [IntKind.wrap_i64]; omega
  clear hI
  generalize off n (topL n + 1) = q at *
  go_enter Tryz.func16, Tryz.ntmps16
  go_wp2_with (first
    | (go_at_call 29; refine HC.out.mono ?_; rintro e w' ⟨rfl, hb⟩)
    | (refine Shap.wpList_ldS rfl _ rfl _ _ rfl hr ?_))
  go_ret
  exact ⟨rfl, HB.out.trans (hb.mono (by simp))⟩
end Go.Proofs.YtmocfbglmahhjabGreatDoor
namespace Go.Proofs.YtmocfbglmahhjabGreatDoor
set_option maxRecDepth 100000
set_option linter.unusedVariables false
open Go.RowKit Plain Go.Proofs.YtmocfbglmahhjabGreatDoor.Shap.Plain
theorem lvl_itm (n l i : Nat) (h1 : 1 ≤ n) (h2 : n ≤ 1024) (hl : l ≤ topL n) (hi : i < wd n l) : Shap.Lvl (wid n) (wid n).length (itm n l i : Int) (l : Int) (i : Int) 0 := by
  have hb := topL_bd n h1 h2
  refine .inl ⟨l, by omega, ?_, ?_, rfl, ?_, rfl⟩
  · rw [wid_off n h1 h2 l (by omega)]; unfold itm; omega
  · rw [wid_off n h1 h2 (l + 1) (by omega), off]; unfold itm; omega
  · rw [wid_off n h1 h2 l (by omega)]; unfold itm; omega
theorem itm_itm (n l i : Nat) (h1 : 1 ≤ n) (h2 : n ≤ 1024) (hl : l ≤ topL n) (hi : i < wd n l) : Shap.Itm (wid n) (wid n).length (l : Int) (i : Int) (itm n l i : Int) 0 := by
  have hb := topL_bd n h1 h2
  refine .inl ⟨l, rfl, by omega, by omega, ?_, ?_, rfl⟩
  · rw [wid_wd n h1 h2 l (by omega)]; omega
  · rw [wid_off n h1 h2 l (by omega)]; unfold itm; omega
theorem itm_none (n l i : Nat) (h1 : 1 ≤ n) (h2 : n ≤ 1024) (hl : l ≤ topL n) (hi : wd n l ≤ i) : Shap.Itm (wid n) (wid n).length (l : Int) (i : Int) 0 12 := by
  have hb := topL_bd n h1 h2
  refine .inr ⟨.inr (.inr (.inr ⟨l, rfl, by omega, by omega, ?_⟩)), rfl, rfl⟩
  rw [wid_wd n h1 h2 l (by omega)]; omega
theorem plc_itm (n l i s : Nat) (h1 : 1 ≤ n) (h2 : n ≤ 1024) (hl : l ≤ topL n) (hi : i < wd n l) (hs : s < 2) : Shap.Plc (wid n) (wid n).length (itm n l i : Int) (s : Int) ((2 * itm n l i + s : Nat) : Int) 0 := by
  have := itm_lt n (topL n) l i hl hi
  refine .inl ⟨by omega, ?_, by omega, by omega, by omega, rfl⟩
  rw [wid_items n h1 h2]; omega
section
variable {w0 w : World} {V D : Nat} {fp : Nat → Prop} {v : Vt} {d : Disk.Dk} {sa : Option Addr} {sc : Nat}
theorem level_v (C : VC w0 w V D fp v d sa sc) (l i : Nat) (hl : l ≤ topL v.n) (hi : i < wd v.n l) :
    Calls Tryz.prog 40 #[.pointer (some ⟨V, 0, none⟩), .int .i64 (itm v.n l i : Nat)] w fun e w' => e = .returned (.int .i64 (l : Int)) ∧ Below w.heap.size w w' := by
  have hb := itm_lt v.n (topL v.n) l i hl hi
  have ho := off_le v.n C.ok.lo C.ok.hi
  have HC : Box (Calls Tryz.prog 65 #[.agg #[.slice sa (wid v.n).length sc], .int .i64 (itm v.n l i : Nat)] w fun e w' => e = .returned (.tuple #[.int .i64 (l : Int), .int .i64 (i : Int), .int .i64 0]) ∧ Below w.heap.size w w') := ⟨Shap.level_any sa (wid v.n).length sc _ _ _ _ (wid v.n) w C.ints (shp_wid v.n C.ok.lo C.ok.hi) (by omega) (lvl_itm v.n l i C.ok.lo C.ok.hi hl hi)⟩
  have hR : Box (w.rangeAt V 34 [.slice sa (wid v.n).length sc]) := ⟨C.rd.shp⟩
  clear hl hi hb ho
  go_enter Tryz.func40, Tryz.ntmps40
  go_wp2_with (first
    | (go_at_call 65; refine HC.out.mono ?_; rintro e w' ⟨rfl, hb⟩)
    | (refine atLoad 58 ?_; refine wpList_ldMid rfl 58 _ _ rfl Tryz.underlying58 rfl V 34 rfl [.slice sa (wid v.n).length sc] infoShp hR.out ?_))
  go_ret
  exact ⟨rfl, hb⟩
theorem place_v (C : VC w0 w V D fp v d sa sc) (l i s : Nat) (hl : l ≤ topL v.n) (hi : i < wd v.n l) (hs : s < 2) :
    Calls Tryz.prog 34 #[.pointer (some ⟨V, 0, none⟩), .int .i64 (itm v.n l i : Nat), .int .i64 (s : Int)] w fun e w' => e = .returned (.int .i64 (2 * itm v.n l i + s : Nat)) ∧ Below w.heap.size w w' := by
  have HC : Box (Calls Tryz.prog 55 #[.agg #[.slice sa (wid v.n).length sc], .int .i64 (itm v.n l i : Nat), .int .i64 (s : Int)] w fun e w' => e = .returned (.tuple #[.int .i64 (2 * itm v.n l i + s : Nat), .int .i64 0]) ∧ Below w.heap.size w w') := ⟨Shap.place_any sa (wid v.n).length sc _ _ _ _ (wid v.n) w C.ints (shp_wid v.n C.ok.lo C.ok.hi) (plc_itm v.n l i s C.ok.lo C.ok.hi hl hi hs)⟩
  have hR : Box (w.rangeAt V 34 [.slice sa (wid v.n).length sc]) := ⟨C.rd.shp⟩
  clear hl hi hs
  generalize 2 * itm v.n l i + s = p at *
  go_enter Tryz.func34, Tryz.ntmps34
  go_wp2_with (first
    | (go_at_call 55; refine HC.out.mono ?_; rintro e w' ⟨rfl, hb⟩)
    | (refine atLoad 58 ?_; refine wpList_ldMid rfl 58 _ _ rfl Tryz.underlying58 rfl V 34 rfl [.slice sa (wid v.n).length sc] infoShp hR.out ?_))
  go_ret
  exact ⟨rfl, hb⟩
theorem topItem_v (C : VC w0 w V D fp v d sa sc) :
    Calls Tryz.prog 22 #[.pointer (some ⟨V, 0, none⟩)] w fun e w' => e = .returned (.int .i64 (itm v.n (topL v.n) 0 : Nat)) ∧ Below w.heap.size w w' := by
  have HC : Box _ := ⟨items_of v.n sa sc w C.ok.lo C.ok.hi C.ints⟩
  have hR : Box (w.rangeAt V 34 [.slice sa (wid v.n).length sc]) := ⟨C.rd.shp⟩
  have ho := off_le v.n C.ok.lo C.ok.hi
  have e : itm v.n (topL v.n) 0 + 1 = off v.n (topL v.n + 1) := by
    rw [off, topL_one v.n C.ok.lo C.ok.hi]; rfl
  have hw : IntKind.i64.wrap (((off v.n (topL v.n + 1) : Nat) : Int) - 1) = ((itm v.n (topL v.n) 0 : Nat) : Int) := by rw [IntKind.wrap_i64]; omega
  clear e ho
  generalize itm v.n (topL v.n) 0 = p at *
  go_enter Tryz.func22, Tryz.ntmps22
  go_wp2_with (first
    | (go_at_call 29; refine HC.out.mono ?_; rintro e w' ⟨rfl, hb⟩)
    | (refine atLoad 58 ?_; refine wpList_ldMid rfl 58 _ _ rfl Tryz.underlying58 rfl V 34 rfl [.slice sa (wid v.n).length sc] infoShp hR.out ?_))
  go_ret
  exact ⟨rfl, hb⟩
theorem path_v (C : VC w0 w V D fp v d sa sc) (q : Nat) (hq : q < v.n) :
    Calls Tryz.prog 23 #[.pointer (some ⟨V, 0, none⟩), .int .u64 (q : Int)] w fun e w' => ∃ a cap, e = .returned (.slice a (wid v.n).length cap) ∧ Shap.Ints w' a (wid v.n).length (pth (wid v.n) q (wid v.n).length) ∧ Below w.heap.size w w' ∧ (wid v.n).length ≤ cap ∧ cap ≤ maxLen ∧ ∀ ad, a = some ad → w.heap.size ≤ ad.block := by
  have hi := C.ok.hi
  have HC : Box _ := ⟨Shap.path_ok sa (wid v.n).length sc q (wid v.n) w C.ints (shp_wid v.n C.ok.lo C.ok.hi) (by rw [wid_zero]; omega)⟩
  have hR : Box (w.rangeAt V 34 [.slice sa (wid v.n).length sc]) := ⟨C.rd.shp⟩
  have hw : IntKind.i64.wrap (q : Int) = (q : Int) := by rw [IntKind.wrap_i64]; omega
  clear hq hi
  go_enter Tryz.func23, Tryz.ntmps23
  go_wp2_with (first
    | (go_at_call 41; refine Calls.mono HC.out ?_; rintro e w' ⟨a, cap, rfl, hI, hb, hc1, hc2, hc3⟩; have HH : Box (Shap.Ints w' a (wid v.n).length (pth (wid v.n) q (wid v.n).length) ∧ Below w.heap.size w w' ∧ (wid v.n).length ≤ cap ∧ cap ≤ maxLen ∧ ∀ ad, a = some ad → w.heap.size ≤ ad.block) := ⟨hI, hb, hc1, hc2, hc3⟩; clear hI hb hc1 hc2 hc3)
    | (refine atLoad 58 ?_; refine wpList_ldMid rfl 58 _ _ rfl Tryz.underlying58 rfl V 34 rfl [.slice sa (wid v.n).length sc] infoShp hR.out ?_))
  go_ret
  exact ⟨a, cap, rfl, HH.out⟩
end
end Go.Proofs.YtmocfbglmahhjabGreatDoor
