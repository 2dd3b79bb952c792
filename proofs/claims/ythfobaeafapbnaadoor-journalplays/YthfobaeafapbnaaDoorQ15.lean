/-
 The disk and the reference side by side: whatever is done with both, they answer alike, and stay alike. And what follows it.
-/
import Derived.Test.YthfobaeafapbnaaDoorQ14
import Derived.Test.YthfobaeafapbnaaDoorQ12
set_option linter.unusedVariables false
set_option maxRecDepth 100000
namespace Go.Proofs.YthfobaeafapbnaaDoor.Disk.Plain
end Go.Proofs.YthfobaeafapbnaaDoor.Disk.Plain
namespace Go.Proofs.YthfobaeafapbnaaDoor.Disk
open Go.RowKit Go.Proofs.YthfobaeafapbnaaDoor.Plain Go.Proofs.YthfobaeafapbnaaDoor.Disk.Plain
def Own4 (t : TypeId) : Prop := t = 76 ∨ t = 121 ∨ t = 123 ∨ t = 131
def Fr (w w' : World) : Prop := w.heap.size <= w'.heap.size /\ ∀ (k : Nat) (cs : Array Value) (t : TypeId) (fr : Nat × Nat), w.heap[k]? = some (.cells cs t fr) -> ¬ Own4 t -> w'.heap[k]? = w.heap[k]?
def Cm (w0 w : World) (D : Nat) (d : Dk) : Prop := ∃ fp, Cx w0 w D fp d
theorem Cm.foot {w0 w : World} {D : Nat} {d : Dk} (h : Cm w0 w D d) : ∃ fp, Cx w0 w D fp d /\ ∀ (k : Nat) (cs : Array Value) (t : TypeId) (fr : Nat × Nat), w.heap[k]? = some (.cells cs t fr) -> ¬ Own4 t -> ¬ fp k := by
 obtain ⟨fp, ⟨P, uv, ov, h1, h2⟩, hb, hlo, hhi⟩ := h
 refine ⟨Go.Proofs.YthfobaeafapbnaaDoor.Disk.foot D P uv ov, ⟨⟨P, uv, ov, h1, fun _ hk => hk⟩, hb, fun k hk => hlo k (h2 k hk), fun k hk => h1.lt k hk⟩, fun k cs t fr hk ht hf => ht ?_⟩
 rcases hf with rfl | rfl | hf | hf
 ·rw [h1.hd] at hk
  simp only [Option.some.injEq, Obj.cells.injEq] at hk
  exact .inl hk.2.1.symm
 ·obtain ⟨c, h3, _⟩ := h1.hp
  rw [h3] at hk
  simp only [Option.some.injEq, Obj.cells.injEq] at hk
  exact .inr (.inl hk.2.1.symm)
 ·rcases h1.hu.2 with ⟨e, _⟩ | ⟨g, cap, cur, e, _, hg, _⟩
  ·rw [e] at hf; simp [Value.ownBlock] at hf
  ·rw [e] at hf
   simp only [Value.ownBlock, Option.some.injEq] at hf
   subst hf
   rw [hg] at hk
   simp only [Option.some.injEq, Obj.cells.injEq] at hk
   exact .inr (.inr (.inl hk.2.1.symm))
 ·rcases h1.ho.2 with ⟨e, _⟩ | ⟨g, cap, cur, e, _, hg, _⟩
  ·rw [e] at hf; simp [Value.ownBlock] at hf
  ·rw [e] at hf
   simp only [Value.ownBlock, Option.some.injEq] at hf
   subst hf
   rw [hg] at hk
   simp only [Option.some.injEq, Obj.cells.injEq] at hk
   exact .inr (.inr (.inr hk.2.1.symm))
theorem Cm.step {w0 w w' : World} {D : Nat} {d : Dk} (h : Cm w0 w D d) (hb : Below w.heap.size w w') : Cm w0 w' D d := by
 obtain ⟨fp, c⟩ := h
 exact ⟨fp, c.step hb⟩
theorem fr_fol {w w' : World} {fp fp' : Nat -> Prop} (hf : ∀ (k : Nat) (cs : Array Value) (t : TypeId) (fr : Nat × Nat), w.heap[k]? = some (.cells cs t fr) -> ¬ Own4 t -> ¬ fp k) (h : Fol w fp w' fp') : Fr w w' :=
 ⟨h.t.size, fun k cs t fr hk ht => h.t.block k (Array.getElem?_eq_some_iff.1 hk).1 (hf k cs t fr hk ht)⟩
structure J (k : Nat) (d : Dk) (r : Rd) : Prop where
 n : r.n = d.n
 pl : ∀ i, rat r.done i = d.pl i
 way : r.way = d.uw
 down : r.down = d.down
 st : d.st = true -> r.left = d.left
 no : d.st = false -> r.left = -1
 lo : 0 <= d.left /\ d.left <= 9223372036854775807
 ops : r.ops = d.ops
 l1 : r.done.length + r.way.length <= k
 l2 : r.ops.length <= k
theorem J.on {k : Nat} {d : Dk} {r : Rd} (h : J k d r) : J (k + 1) d r := ⟨h.n, h.pl, h.way, h.down, h.st, h.no, h.lo, h.ops, by have := h.l1; omega, by have := h.l2; omega⟩
theorem j_new (n : Nat) : J 0 (dk0 n) (rd0 n) := ⟨rfl, fun _ => rfl, rfl, rfl, fun h => by simp [dk0] at h, fun _ => rfl, by simp [dk0], rfl, Nat.le_refl _, Nat.le_refl _⟩
theorem rat_app (A L : List (Nat × List Int)) (i : Nat) : rat (A ++ L) i = lay L (rat A) i := by
 induction L using snoc_ind with
 | nil => simp [lay]
 | snoc L x ih =>
  rw [<- List.append_assoc, lay_snoc, rat, lastOf_snoc, upd]
  by_cases e : x.1 = i
  ·simp [e]
  ·rw [if_neg e, if_neg (fun h => e h.symm), <- ih, rat]
theorem lay_congr (L : List (Nat × List Int)) (p q : Nat -> List Int) (h : ∀ i, p i = q i) (i : Nat) : lay L p i = lay L q i := by rw [lay_get, lay_get, h]
theorem oneR {w : World} {v : Value} {L : List (Nat × List Int)} (h : Rw w v L) : v.oneCell' = true := one_own h
theorem oneO {w : World} {v : Value} {L : List (Int × Int)} (h : Ro w v L) : v.oneCell' = true := one_own h
structure Nxt (w0 w : World) (D k : Nat) (d0 : Dk) (w' : World) (d' : Dk) (r' : Rd) : Prop where
 c : Cm w0 w' D d'
 f : Fr w w'
 j : J (k + 1) d' r'
 nn : d'.n = d0.n
theorem both_stop {w0 w : World} {D k : Nat} {d : Dk} {r : Rd} (C : Cm w0 w D d) (hJ : J k d r) (i : Int) (hi : i <= 9223372036854775807) :
  Calls Tryd.prog 26 #[.pointer (some ⟨D, 0, none⟩), .int .i64 i] w fun e w' => ∃ d' r', e = .returned (.tuple #[]) /\ Nxt w0 w D k d w' d' r' /\ ∀ w2 v, Rv w2 v r ->
   Calls Tryd.prog 27 #[v, .int .i64 i] w2 fun e w3 => ∃ v', e = .returned v' /\ Rv w3 v' r' /\ Below w2.heap.size w2 w3 := by
 obtain ⟨fp, c, hf⟩ := C.foot
 have l1 := hJ.l1
 have l2 := hJ.l2
 refine (stop_any w D fp d c.is i).mono ?_
 rintro e w' ⟨rfl, hn⟩
 obtain ⟨fp', c', fo⟩ := c.nx hn
 refine ⟨_, { r with left := rlf i }, rfl, ⟨⟨fp', c'⟩, fr_fol hf fo, ⟨hJ.n, hJ.pl, hJ.way, hJ.down, fun h => ?_, fun h => ?_, ?_, hJ.ops, by show r.done.length + r.way.length <= k + 1; omega, by show r.ops.length <= k + 1; omega⟩, rfl⟩, fun w2 v hv => ?_⟩
 ·have h0 : 0 <= i := by simpa using h
  show rlf i = max i 0
  rw [rlf, if_neg (by omega)]
  omega
 ·have h0 : ¬ 0 <= i := by simpa using h
  show rlf i = -1
  rw [rlf, if_pos (by omega)]
 ·show 0 <= max i 0 /\ max i 0 <= 9223372036854775807
  omega
 ·obtain ⟨vd, vw, vo, rfl, h1, h2, h3⟩ := hv
  refine (rstop_any w2 r.n vd vw vo r.left r.down (oneR h1) (oneR h2) (oneO h3) i).mono ?_
  rintro e w3 ⟨rfl, hb⟩
  exact ⟨_, rfl, ⟨vd, vw, vo, rfl, h1.below hb, h2.below hb, h3.below hb⟩, hb⟩
theorem both_crash {w0 w : World} {D k : Nat} {d : Dk} {r : Rd} (C : Cm w0 w D d) (hJ : J k d r) (hk : k < 900000) (ka : Option Addr) (kl kc : Nat) (K : List Bool) (hK : ∀ x, Below w0.heap.size w0 x -> Bools x ka kl K) (hKn : ∀ ad, ka = some ad -> 0 < kl -> ad.block < w0.heap.size) (hkl : kl <= maxLen) :
  Calls Tryd.prog 28 #[.pointer (some ⟨D, 0, none⟩), .slice ka kl kc] w fun e w' => ∃ d' r', e = .returned (.tuple #[]) /\ Nxt w0 w D k d w' d' r' /\ ∀ w2 v, Below w0.heap.size w0 w2 -> Rv w2 v r ->
   Calls Tryd.prog 29 #[v, .slice ka kl kc] w2 fun e w3 => ∃ v', e = .returned v' /\ Rv w3 v' r' /\ Below w2.heap.size w2 w3 := by
 obtain ⟨fp, c, hf⟩ := C.foot
 have l1 := hJ.l1
 have l2 := hJ.l2
 have e1 := hJ.way
 have e1' : d.uw.length <= k := by rw [<- e1]; omega
 refine (crash_any w D fp d c.is ka kl kc K (hK w c.bel) (fun ad e h0 h => by have := c.lo _ h; have := hKn ad e h0; omega) (by omega) hkl).mono ?_
 rintro e w' ⟨rfl, hn⟩
 obtain ⟨fp', c', fo⟩ := c.nx hn
 refine ⟨_, { r with done := r.done ++ kp r.way K, way := [], left := -1, down := false }, rfl, ⟨⟨fp', c'⟩, fr_fol hf fo, ⟨hJ.n, fun i => ?_, rfl, rfl, fun h => by simp [crOk] at h, fun _ => rfl, by simp [crOk], hJ.ops, by show (r.done ++ kp r.way K).length + 0 <= k + 1; have := length_kp r.way K; simp; omega, by show r.ops.length <= k + 1; omega⟩, rfl⟩, fun w2 v hb2 hv => ?_⟩
 ·show rat (r.done ++ kp r.way K) i = lay (kp d.uw K) d.pl i
  rw [rat_app, e1]
  exact lay_congr _ _ _ hJ.pl i
 ·obtain ⟨vd, vw, vo, rfl, h1, h2, h3⟩ := hv
  refine (rcrash_any w2 r.n vd vw vo r.left r.down r.done r.way ka kl kc K (hK w2 hb2) h1 h2 (oneO h3) (by omega) hkl).mono ?_
  rintro e w3 ⟨vd', rfl, hb, h4⟩
  exact ⟨_, rfl, ⟨vd', _, vo, rfl, h4, Rw.nil _, h3.below hb⟩, hb⟩
end Go.Proofs.YthfobaeafapbnaaDoor.Disk
namespace Go.Proofs.YthfobaeafapbnaaDoor.Disk.Plain
end Go.Proofs.YthfobaeafapbnaaDoor.Disk.Plain
namespace Go.Proofs.YthfobaeafapbnaaDoor.Disk
open Go.RowKit Go.Proofs.YthfobaeafapbnaaDoor.Plain Go.Proofs.YthfobaeafapbnaaDoor.Disk.Plain
def nils (m : Nat) : List Value := List.replicate m (Value.slice none 0 0)
theorem nils_succ (m : Nat) : nils (m + 1) = Value.slice none 0 0 :: nils m := rfl
structure Rws (w wr : World) (g n k : Nat) (pl : Nat -> List Int) (L : List Value) : Prop where
 row : wr.heap[g]? = some (.cells (L ++ nils (n - k)).toArray 63 (0, 0))
 len : L.length = k
 each : ∀ i (h : i < L.length), wr.ownsRow 0 5 1 L[i] 192 ((pl i).map (Value.int .u8)) /\ ∀ j, L[i].ownBlock = some j -> g < j
 lo : w.heap.size <= g
 bel : Below w.heap.size w wr
theorem Rws.step {w wr wx : World} {g n k : Nat} {pl : Nat -> List Int} {L : List Value} (h : Rws w wr g n k pl L) (hk : k < n) (v : Value) (hb : Below wr.heap.size wr wx) (hv : wx.ownsRow 0 5 1 v 192 ((pl k).map (Value.int .u8))) (hl : ∀ j, v.ownBlock = some j -> wr.heap.size <= j) : Rws w (wx.setCell ⟨g, k, none⟩ v) g n (k + 1) pl (L ++ [v]) := by
 have hg : g < wr.heap.size := (Array.getElem?_eq_some_iff.1 h.row).1
 have hne : ∀ u : Value, (∀ j, u.ownBlock = some j -> g < j) -> ∀ j, u.ownBlock = some j -> (wx.setCell ⟨g, k, none⟩ v).heap[j]? = wx.heap[j]? := fun u hu j hj => heap_setCell_other wx ⟨g, k, none⟩ j _ (fun e => by have := hu j hj; simp at e; omega)
 refine ⟨?_, by simp [h.len], fun i hi => ?_, h.lo, below_set (h.bel.trans (hb.mono h.bel.size)) h.lo v⟩
 ·rw [heap_setCell_same wx g k _ _ v ((hb.block g hg).trans h.row)]
  congr 2
  rw [show n - k = n - (k + 1) + 1 by omega, nils_succ]
  simp [<- h.len]
 ·by_cases hik : i < L.length
  ·have e : (L ++ [v])[i] = L[i] := List.getElem_append_left hik
   rw [e]
   obtain ⟨h1, h2⟩ := h.each i hik
   exact ⟨own_same (own_same h1 (fun j hj => hb.block j (h1.lt j hj).2)) (hne _ h2), h2⟩
  ·have hik2 : i = L.length := by simp at hi; omega
   subst hik2
   have e : (L ++ [v])[L.length]'(by simp) = v := by simp
   rw [e, h.len]
   have h2 : ∀ j, v.ownBlock = some j -> g < j := fun j hj => by have := hl j hj; omega
   exact ⟨own_same hv (hne _ h2), h2⟩
theorem infoRow : (Tryd.prog.info? 63).map (fun i => (i.zero, i.size, i.bytes)) = some (some (.slice none 0 0), 1, 24) := by kernel_rfl
theorem made_nil (n : Nat) : madeCells #[.slice none 0 0] n = (nils n).toArray := by
 unfold nils
 apply Array.ext
 ·simp [size_made]
 ·intro i h1 h2
  simp [madeCells]
  have : i % 1 = 0 := by omega
  simp [this]
set_option maxRecDepth 20000 in
set_option maxHeartbeats 4000000 in
theorem image_any (w : World) (D P : Nat) (uv ov : Value) (d : Dk) (h : At w D P uv ov d) :
  Calls Tryd.prog 32 #[.pointer (some ⟨D, 0, none⟩)] w fun e w' => ∃ g L, e = .returned (.slice (some ⟨g, 0, none⟩) d.n d.n) /\ Rws w w' g d.n d.n d.pl L := by
 obtain ⟨c0, -, -, -, -, -, -⟩ := h.cells
 have hn := h.hn
 have HA : Box (At w D P uv ov d) := ⟨h⟩
 have HM : Box (24 * d.n <= 281474976710656 /\ d.n <= 9223372036854775807) := ⟨by omega, by omega⟩
 have HE : Box (madeCells (Value.slice none 0 0).cells (d.n * 1) = (nils d.n).toArray) := ⟨by rw [Nat.mul_one]; exact made_nil d.n⟩
 have hn2 : d.n < 9223372036854775807 := by omega
 clear h hn
 go_enter Tryd.func32, Tryd.ntmps32
 go_wp2_with (refine wpList_run rfl _ _ (exec_make 91 63 _ _ rfl (.slice none 0 0) 1 24 Tryd.underlying91 infoRow d.n rfl rfl HM.out.1 HM.out.2) ?_; rw [HE.out])
 have R0 : Box (Rws w (w.alloc (.cells (nils d.n).toArray 63)) w.heap.size d.n 0 d.pl []) := ⟨⟨al_at rfl, rfl, fun i hi => by simp at hi, Nat.le_refl _, (Below.refl _ _).alloc (Nat.le_refl _) _⟩⟩
 generalize w.alloc (.cells (nils d.n).toArray 63) = w1 at R0 ⊢
 obtain ⟨g, HG⟩ : ∃ g, Box (w.heap.size = g) := ⟨_, ⟨rfl⟩⟩
 rw [HG.out] at R0 ⊢
 clear HE HM
 go_loopw [15] (fun j wr => ∃ q : Nat, q <= d.n /\ j = .int .i64 q /\ ∃ L, Box (Rws w wr g d.n q d.pl L)) (fun j _ => d.n - (intOf j).toNat)
 case atStart => exact ⟨0, by omega, rfl, [], R0⟩
 case round =>
  clear R0 c0
  obtain ⟨q, hq, rfl, L, HL⟩ := hrel
  have HA2 : Box (At wr D P uv ov d) := ⟨HA.out.below HL.out.bel⟩
  obtain ⟨c0, -, -, -, -, -, -⟩ := HA2.out.cells
  by_cases hlt : q < d.n
  ·have HC : Box (Calls Tryd.prog 49 #[.slice (some ⟨P, q * 192, none⟩) 192 192] wr fun e w' => ∃ v', e = .returned v' /\ w'.ownsRow 0 5 1 v' 192 ((d.pl q).map (Value.int .u8)) /\ Below wr.heap.size wr w' /\ ∀ k, v'.ownBlock = some k -> wr.heap.size <= k) := ⟨by
    obtain ⟨cs, hP, hPs⟩ := HA2.out.hp
    exact clone_bytes wr P (q * 192) 192 192 (d.pl q) (pls_range hP hPs hlt (HA2.out.hpl q).1) (HA2.out.hpl q).1 (by omega)⟩
   have hcl : ∀ wx, Below wr.heap.size wr wx -> ∃ u, wx.cell? ⟨g, q, none⟩ = some u /\ wx.frozen? ⟨g, q, none⟩ = false := fun wx hb => by
    have hr := (hb.block g (Array.getElem?_eq_some_iff.1 HL.out.row).1).trans HL.out.row
    refine ⟨.slice none 0 0, ?_, frozen_of_row wx g q _ _ hr⟩
    rw [cell_of_row _ _ _ _ _ _ hr]
    have hlen := HL.out.len
    simp [<- hlen, nils, show 0 < d.n - L.length by omega]
   have HCl : Box _ := ⟨hcl⟩
   clear hcl
   go_wp2_with (go_at_call 49; refine HC.out.mono ?_; rintro e wx ⟨v', rfl, hx1, hx2, hx3⟩; obtain ⟨va, vc, rfl⟩ := own_form2 hx1; have HX : Box _ := ⟨HL.out.step hlt _ hx2 hx1 hx3⟩; obtain ⟨u0, cu, fu⟩ := HCl.out wx hx2; clear hx1 hx2 hx3)
   exact ⟨⟨q + 1, by omega, by simp, _, HX⟩, by simp [intOf]; omega⟩
  ·obtain rfl : q = d.n := by omega
   go_wp2
   go_ret
   exact ⟨g, L, rfl, HL.out⟩
end Go.Proofs.YthfobaeafapbnaaDoor.Disk
