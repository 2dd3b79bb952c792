/-
 Slots of package replay in memory; what reading more of them leaves. And what follows it.
-/
import Derived.Test.YtjdjbjedfbmgpaaGreatDoorQ24
import Derived.Test.YtjdjbjedfbmgpaaGreatDoorQ28
import Derived.Test.YtjdjbjedfbmgpaaGreatDoorQ16
set_option linter.unusedVariables false
set_option maxRecDepth 100000
set_option maxRecDepth 100000
namespace Go.Proofs.YtjdjbjedfbmgpaaGreatDoor
open Go.RowKit Plain
attribute [local go_sem] Oper.semAt_some
structure Sl where
 p : Nat
 g : Nat
 bs : List Int
def stc (x : Sl) : List Value := [.int .u32 (x.p : Int), .slice (some ⟨x.g, 0, none⟩) 192 192]
def spl (x : Sl) : Nat × List Int := (x.p, x.bs)
theorem infStl : (Tryz.prog.info? 168).map (fun i => (i.zero, i.size, i.bytes)) = some (some (.agg #[.int .u32 0, .slice none 0 0]), 2, 32) := by kernel_rfl
theorem infoStl : (Tryz.prog.info? 168).map (·.size) = some 2 := by kernel_rfl
theorem zeroStl : (Tryz.prog.info? 168).map (·.zero) = some (some (.agg #[.int .u32 0, .slice none 0 0])) := by kernel_rfl
theorem built_Stl (p : Int) (a : Option Addr) (l c : Nat) : Tryz.prog.built 168 [(0, .int .u32 p), (1, .slice a l c)] = some #[.int .u32 p, .slice a l c] := by kernel_rfl
structure OSl (w : World) (B : Nat) (x : Sl) : Prop where
 lo : B <= x.g
 row : w.heap[x.g]? = some (.cells (u8s x.bs) 114 (0, 0))
 len : x.bs.length = 192
 byt : Byt x.bs
 pl : x.p <= 4096
structure Slots (w : World) (B : Nat) (v : Value) (X : List Sl) : Prop where
 row : w.ownsRow B 168 2 v X.length (X.map stc).flatten
 byt : ∀ x ∈ X, OSl w B x
theorem Slots.to {w w' : World} {B : Nat} {v : Value} {X : List Sl} (h : Slots w B v X) (hb : Below w.heap.size w w') : Slots w' B v X :=
 ⟨own_to h.row hb, fun x hx => ⟨(h.byt x hx).lo, (hb.block x.g (Array.getElem?_eq_some_iff.1 (h.byt x hx).row).1).trans (h.byt x hx).row, (h.byt x hx).len, (h.byt x hx).byt, (h.byt x hx).pl⟩⟩
theorem OSl.bytes {w : World} {B : Nat} {x : Sl} (h : OSl w B x) : Bytes w (some ⟨x.g, 0, none⟩) 192 x.bs := by
 refine ⟨h.len, h.byt, fun _ => ⟨x.g, 0, rfl, (Array.getElem?_eq_some_iff.1 h.row).1, fun i hi => ?_⟩⟩
 rw [cell_of_row _ _ _ _ _ _ h.row, Nat.zero_add]
 have : i < x.bs.length := by rw [h.len]; exact hi
 simp [u8s, List.getD, this]
def pcs (f n st k : Nat) : List Nat := (List.range k).map fun i => f + (st + i) % n
theorem pcs_succ (f n st k : Nat) : pcs f n st (k + 1) = pcs f n st k ++ [f + (st + k) % n] := by simp [pcs, List.range_succ]
def rdD (d : Disk.Dk) (L : List Nat) : Disk.Dk := { d with ops := d.ops ++ L.map fun (p : Nat) => ((1 : Int), (p : Int)) }
theorem rdD_nil (d : Disk.Dk) : rdD d [] = d := by simp [rdD]
theorem rdD_snoc (d : Disk.Dk) (L : List Nat) (p : Nat) : Disk.rdOk (rdD d L) (p : Int) = rdD d (L ++ [p]) := by simp [rdD, Disk.rdOk]
theorem cx_grown {w0 w w' : World} {D : Nat} {fp : Nat -> Prop} {d : Disk.Dk} {row : Option Nat} (h : Disk.Cx w0 w D fp d) (hg : w.grownBy w' row) (hn : ∀ g, row = some g -> ¬ fp g /\ w0.heap.size <= g) : Disk.Cx w0 w' D fp d := by
 refine ⟨h.is.same (fun k hk hl => hg.block k hl (fun e => (hn k e.symm).1 hk)), ?_, h.lo, fun k hk => Nat.lt_of_lt_of_le (h.hi k hk) hg.size⟩
 have hl := h.bel
 exact ⟨hg.os.trans hl.os, hg.tape.trans hl.tape, hg.output.trans hl.output, Nat.le_trans hl.size hg.size, fun k hk => (hg.block k (Nat.lt_of_lt_of_le hk hl.size) (fun e => by have := (hn k e.symm).2; omega)).trans (hl.block k hk)⟩
theorem fol_trans {a b c : World} {fp fp' fp'' : Nat -> Prop} (h : Disk.Fol a fp b fp') (k : Disk.Fol b fp' c fp'') : Disk.Fol a fp c fp'' := by
 refine ⟨⟨k.t.os.trans h.t.os, k.t.tape.trans h.t.tape, k.t.output.trans h.t.output, Nat.le_trans h.t.size k.t.size, fun i hi hn => ?_⟩, fun i hi hn => k.k i (Nat.lt_of_lt_of_le hi h.t.size) (h.k i hi hn)⟩
 exact (k.t.block i (Nat.lt_of_lt_of_le hi h.t.size) (h.k i hi hn)).trans (h.t.block i hi hn)
theorem fol_grown {a b c : World} {fp fp' : Nat -> Prop} {row : Option Nat} (h : Disk.Fol a fp b fp') (hg : b.grownBy c row) (hn : ∀ g, row = some g -> a.heap.size <= g) : Disk.Fol a fp c fp' :=
 ⟨⟨hg.os.trans h.t.os, hg.tape.trans h.t.tape, hg.output.trans h.t.output, Nat.le_trans h.t.size hg.size, fun i hi hf => (hg.block i (Nat.lt_of_lt_of_le hi h.t.size) (fun e => by have := hn i e.symm; omega)).trans (h.t.block i hi hf)⟩, h.k⟩
theorem fol_refl (w : World) (fp : Nat -> Prop) : Disk.Fol w fp w fp := ⟨Disk.Turned.refl _ _, fun _ _ h => h⟩
structure RdK (w0 w1 wr : World) (D : Nat) (fp : Nat -> Prop) (d : Disk.Dk) (L : List Nat) (v : Value) (X : List Sl) (fpk : Nat -> Prop) : Prop where
 sl : Slots wr w1.heap.size v X
 eq : X.map spl = L.map fun p => (p, Disk.lat d p)
 cx : Disk.Cx w0 wr D fpk (rdD d L)
 fol : Disk.Fol w1 fp wr fpk
 nv : ∀ g, v.ownBlock = some g -> ¬ fpk g
 ng : ∀ x ∈ X, ¬ fpk x.g
theorem RdK.len {w0 w1 wr : World} {D : Nat} {fp : Nat -> Prop} {d : Disk.Dk} {L : List Nat} {v : Value} {X : List Sl} {fpk : Nat -> Prop} (h : RdK w0 w1 wr D fp d L v X fpk) : X.length = L.length := by
 have := congrArg List.length h.eq
 simpa using this
theorem RdK.mid {w0 w1 wr x1 : World} {D : Nat} {fp : Nat -> Prop} {d : Disk.Dk} {L : List Nat} {v : Value} {X : List Sl} {fpk fp1 : Nat -> Prop} (h : RdK w0 w1 wr D fp d L v X fpk) (hf : Disk.Fol wr fpk x1 fp1) : Slots x1 w1.heap.size v X /\ (∀ g, v.ownBlock = some g -> ¬ fp1 g) /\ ∀ x ∈ X, ¬ fp1 x.g := by
 have hl := h.sl.row
 refine ⟨⟨own_same hl (fun k hk => hf.t.block k (hl.lt k hk).2 (h.nv k hk)), fun x hx => ?_⟩, fun g hg => hf.k g (hl.lt g hg).2 (h.nv g hg), fun x hx => ?_⟩
 ·have o := h.sl.byt x hx
  exact ⟨o.lo, (hf.t.block x.g (Array.getElem?_eq_some_iff.1 o.row).1 (h.ng x hx)).trans o.row, o.len, o.byt, o.pl⟩
 ·have o := h.sl.byt x hx
  exact hf.k x.g (Array.getElem?_eq_some_iff.1 o.row).1 (h.ng x hx)
theorem RdK.step {w0 w1 wr x1 w' : World} {D : Nat} {fp : Nat -> Prop} {d : Disk.Dk} {L : List Nat} {v v' : Value} {X : List Sl} {fpk fp1 : Nat -> Prop} (h : RdK w0 w1 wr D fp d L v X fpk) (p R : Nat) (hp : p <= 4096) (hf : Disk.Fol wr fpk x1 fp1) (hc : Disk.Cx w0 x1 D fp1 (Disk.rdOk (rdD d L) (p : Int))) (hl : Disk.Loc x1 fp1 R (Disk.lat d p) 114) (hR : wr.heap.size <= R) (hlen : (Disk.lat d p).length = 192 /\ Byt (Disk.lat d p))
  (hw0 : w0.heap.size <= w1.heap.size) (ho : w'.ownsRow w1.heap.size 168 2 v' (X.length + 1) ((X.map stc).flatten ++ [.int .u32 (p : Int), .slice (some ⟨R, 0, none⟩) 192 192])) (hg : x1.grownBy w' v.ownBlock) (hv : ∀ k, v'.ownBlock = some k -> v.ownBlock = some k ∨ x1.heap.size <= k) : RdK w0 w1 w' D fp d (L ++ [p]) v' (X ++ [⟨p, R, Disk.lat d p⟩]) fp1 := by
 obtain ⟨m1, m2, m3⟩ := h.mid hf
 have hs := h.fol.t.size
 have hRl : R < x1.heap.size := (Array.getElem?_eq_some_iff.1 hl.row).1
 have own0 := m1.row
 have nb : ∀ x : Sl, x1.heap[x.g]? = some (.cells (u8s x.bs) 114 (0, 0)) -> v.ownBlock ≠ some x.g := fun x hx e => by
  obtain ⟨_, c1, h1⟩ := own_blk own0 x.g e
  rw [hx] at h1
  simp only [Option.some.injEq, Obj.cells.injEq] at h1
  exact absurd h1.2.1 (by decide)
 have old : ∀ x : Sl, OSl x1 w1.heap.size x -> OSl w' w1.heap.size x := fun x o => ⟨o.lo, (hg.block x.g (Array.getElem?_eq_some_iff.1 o.row).1 (fun e => nb x o.row e.symm)).trans o.row, o.len, o.byt, o.pl⟩
 refine ⟨⟨?_, fun x hx => ?_⟩, ?_, ?_, ?_, ?_, ?_⟩
 ·rw [List.map_append, List.flatten_append]
  simpa [stc] using ho
 ·rcases List.mem_append.1 hx with hx | hx
  ·exact old x (m1.byt x hx)
  ·simp only [List.mem_cons, List.not_mem_nil, or_false] at hx
   subst hx
   exact old _ ⟨by show _ <= R; omega, hl.row, hlen.1, hlen.2, hp⟩
 ·rw [List.map_append, List.map_append, h.eq]
  simp [spl]
 ·rw [rdD_snoc] at hc
  exact cx_grown hc hg (fun g hg' => ⟨m2 g hg', by have := (own_blk own0 g hg').1; omega⟩)
 ·exact fol_grown (fol_trans h.fol hf) hg (fun g hg' => (own_blk own0 g hg').1)
 ·intro g hg'
  rcases hv g hg' with h1 | h1
  ·exact m2 g h1
  ·exact fun hfp => by have := hc.hi g hfp; omega
 ·intro x hx
  rcases List.mem_append.1 hx with hx | hx
  ·exact m3 x hx
  ·simp only [List.mem_cons, List.not_mem_nil, or_false] at hx
   subst hx
   exact hl.no
end Go.Proofs.YtjdjbjedfbmgpaaGreatDoor
namespace Go.Proofs.YtjdjbjedfbmgpaaGreatDoor
open Go.RowKit Plain
attribute [local go_sem] Oper.semAt_some
set_option maxHeartbeats 4000000 in
theorem read_v {w0 w : World} {D : Nat} {fp : Nat -> Prop} {d : Disk.Dk} (C : Disk.Cx w0 w D fp d) (f n : Nat) (s : Jst) (h1 : 1 <= n) (hfit : f + n <= d.n) (hdn : d.n <= 4096) (hm : may n s = true) (hd : d.down = false) (ho : d.ops.length < 900000) (hu : d.uw.length < 900000) :
  Calls Tryz.prog 53 #[.pointer (some ⟨D, 0, none⟩), .int .u64 (f : Int), .int .u64 (n : Int), .agg (sa s)] w fun e w' => ∃ v X fp', e = .returned (.tuple #[v, .int .i64 0]) /\ Slots w' w.heap.size v X /\ X.map spl = (pcs f n s.start s.count).map (fun p => (p, Disk.lat d p)) /\ Disk.Cx w0 w' D fp' (rdD d (pcs f n s.start s.count)) /\ Disk.Fol w fp w' fp' := by
 obtain ⟨st, ct, tg⟩ := s
 obtain ⟨hst, hct⟩ := may_ok hm
 dsimp only at hst hct ⊢
 obtain ⟨SA, HSA⟩ : ∃ SA, Box (sa ⟨st, ct, tg⟩ = SA /\ SA[0]? = some (.int .u64 (st : Int)) /\ SA[1]? = some (.int .u64 (ct : Int))) := ⟨_, ⟨rfl, rfl, rfl⟩⟩
 rw [HSA.out.1]
 obtain ⟨S, hS⟩ : ∃ S, w.heap.size = S := ⟨_, rfl⟩
 obtain ⟨w1, hw1⟩ : ∃ w1, w.alloc (.cells (SA) 27) = w1 := ⟨_, rfl⟩
 have hb1 : Below w.heap.size w w1 := by rw [<- hw1]; exact (Below.refl _ _).alloc (Nat.le_refl _) _
 have k1 : w1.heap[S]? = some (.cells (SA) 27 (0, 0)) := by rw [<- hw1]; exact al_at hS
 have C1 := C.step hb1
 have nS : ¬ fp S := fun h => by have := C.hi S h; omega
 have hl1 : S < w1.heap.size := (Array.getElem?_eq_some_iff.1 k1).1
 have HS : Box (∀ wr fpk, Disk.Fol w1 fp wr fpk -> wr.cell? ⟨S, 0, none⟩ = some (.int .u64 (st : Int)) /\ wr.cell? ⟨S, 1, none⟩ = some (.int .u64 (ct : Int))) := ⟨fun wr fpk hf => by
  have := (hf.t.block S hl1 nS).trans k1
  exact ⟨by rw [cell_of_row _ _ _ _ _ _ this]; exact HSA.out.2.1, by rw [cell_of_row _ _ _ _ _ _ this]; exact HSA.out.2.2⟩⟩
 have H0 : Box (RdK w0 w1 w1 D fp d (pcs f n st 0) (.slice none 0 0) [] fp) := ⟨⟨⟨World.ownsRow_nil _ _ _ _, fun x hx => by simp at hx⟩, rfl, by show Disk.Cx w0 w1 D fp (rdD d []); rw [rdD_nil]; exact C1, fol_refl _ _, fun g hg => (by cases hg), fun x hx => by simp at hx⟩⟩
 have HRD : Box (∀ (k p : Nat) (wr : World) (v : Value) (X : List Sl) (fpk : Nat -> Prop), k < ct -> f + (st + k) % n = p -> RdK w0 w1 wr D fp d (pcs f n st k) v X fpk -> Calls Tryz.prog 16 #[.pointer (some ⟨D, 0, none⟩), .int .i64 (p : Int)] wr fun e w' =>
   ∃ R fp', e = .returned (.tuple #[.slice (some ⟨R, 0, none⟩) 192 192, .int .i64 0]) /\ Disk.Cx w0 w' D fp' (Disk.rdOk (rdD d (pcs f n st k)) (p : Int)) /\ Disk.Fol wr fpk w' fp' /\ Disk.Loc w' fp' R (Disk.lat d p) 114 /\ wr.heap.size <= R /\ (Disk.lat d p).length = 192 /\ Byt (Disk.lat d p)) := ⟨fun k p wr v X fpk hk hp hr => by
  have hpl : p < d.n := by have := Nat.mod_lt (st + k) h1; omega
  exact Disk.read_cx hr.cx p hd hpl (by show (d.ops ++ (pcs f n st k).map _).length < 1000000; simp [pcs]; omega) (by show d.uw.length < 1000000; omega)⟩
 have HSP : Box (∀ (k p R : Nat) (wr x1 w' : World) (v v' : Value) (X : List Sl) (fpk fp1 : Nat -> Prop), k < ct -> f + (st + k) % n = p -> RdK w0 w1 wr D fp d (pcs f n st k) v X fpk -> Disk.Cx w0 x1 D fp1 (Disk.rdOk (rdD d (pcs f n st k)) (p : Int)) -> Disk.Fol wr fpk x1 fp1 -> Disk.Loc x1 fp1 R (Disk.lat d p) 114 -> wr.heap.size <= R -> (Disk.lat d p).length = 192 /\ Byt (Disk.lat d p) -> w'.ownsRow w1.heap.size 168 2 v' (X.length + 1) ((X.map stc).flatten ++ [.int .u32 (p : Int), .slice (some ⟨R, 0, none⟩) 192 192]) -> x1.grownBy w' v.ownBlock -> (∀ k, v'.ownBlock = some k -> v.ownBlock = some k ∨ x1.heap.size <= k) -> ∃ X' fp', RdK w0 w1 w' D fp d (pcs f n st (k + 1)) v' X' fp') := ⟨fun k p R wr x1 w' v v' X fpk fp1 hk hp hr q1 q2 q3 q4 q5 q6 q7 q8 => by
  have hpl : p < d.n := by have := Nat.mod_lt (st + k) h1; omega
  rw [pcs_succ, hp]
  exact ⟨_, _, hr.step p R (by omega) q2 q1 q3 q4 q5 (by have := C1.bel.size; omega) q6 q7 q8⟩⟩
 have HEN : Box (∀ wr v X fpk, RdK w0 w1 wr D fp d (pcs f n st ct) v X fpk -> Slots wr w.heap.size v X /\ X.map spl = (pcs f n st ct).map (fun p => (p, Disk.lat d p)) /\ Disk.Cx w0 wr D fpk (rdD d (pcs f n st ct)) /\ Disk.Fol w fp wr fpk) := ⟨fun wr v X fpk hr => by
  refine ⟨⟨own_low2 hr.sl.row hb1.size, fun x hx => ?_⟩, hr.eq, hr.cx, fol_trans ⟨Disk.Turned.of_below hb1, fun _ _ h => h⟩ hr.fol⟩
  have o := hr.sl.byt x hx
  exact ⟨Nat.le_trans hb1.size o.lo, o.row, o.len, o.byt, o.pl⟩⟩
 have HLEN : Box (∀ k wr v X fpk, k <= ct -> RdK w0 w1 wr D fp d (pcs f n st k) v X fpk -> X.length <= 1000000) := ⟨fun k wr v X fpk hk hr => by
  have := hr.len
  simp [pcs] at this
  omega⟩
 have HN : Box (1 <= n /\ f + n <= 4096 /\ st < n /\ ct <= n) := ⟨h1, by omega, hst, hct⟩
 have HSS : Box (w.heap.size = S) := ⟨hS⟩
 clear C h1 hfit hdn hm hd ho hu hb1 k1 C1 nS hl1 hS hst hct
 go_enter Tryz.func53, Tryz.ntmps53
 go_upto_region 2 with fail
 (try simp only [HSS.out])
 clear hw1
 obtain ⟨c0, c1⟩ := HS.out w1 fp (fol_refl _ _)
 go_wp2
 go_loopw [10, 17] (fun v i wr => ∃ (k : Nat) (X : List Sl) (fpk : Nat -> Prop), k <= ct /\ i = .int .u64 (k : Int) /\ Box (RdK w0 w1 wr D fp d (pcs f n st k) v X fpk)) (fun _ i _ => ct - (intOf i).toNat)
 case atStart => exact ⟨0, [], fp, Nat.zero_le _, rfl, H0⟩
 case round =>
  clear H0 c0 c1
  obtain ⟨k, X, fpk, hk, rfl, HG⟩ := hrel
  obtain ⟨c0, c1⟩ := HS.out wr fpk HG.out.fol
  by_cases hlt : k < ct
  ·have hlt1 : decide ((k : Int) < (ct : Int)) = true := by simp; omega
   obtain ⟨m, hmm⟩ : ∃ m, (st + k) % n = m := ⟨_, rfl⟩
   obtain ⟨p, hp⟩ : ∃ p, f + m = p := ⟨_, rfl⟩
   have hnn := HN.out
   have hml : m < n := by rw [<- hmm]; exact Nat.mod_lt _ hnn.1
   have HC : Box _ := ⟨HRD.out k p wr u10 X fpk hlt (by rw [hmm, hp]) HG.out⟩
   have HST : Box _ := ⟨HSP.out k p⟩
   have hne : (n : Int) ≠ 0 := by omega
   have hw1 : IntKind.u64.wrap ((st : Int) + (k : Int)) = ((st + k : Nat) : Int) := by rw [IntKind.wrap_u64]; omega
   have ht : ((st + k : Nat) : Int).tmod (n : Int) = (m : Int) := by rw [<- hmm]; rfl
   have ht2 : ((st + k : Nat) : Int) % (n : Int) = (m : Int) := by rw [<- hmm]; rfl
   have hw2 : IntKind.u64.wrap ((f : Int) + (m : Int)) = (p : Int) := by rw [IntKind.wrap_u64]; omega
   have hw3 : IntKind.i64.wrap (p : Int) = (p : Int) := by rw [IntKind.wrap_i64]; omega
   have hw4 : IntKind.u32.wrap (p : Int) = (p : Int) := by rw [IntKind.wrap_u32]; omega
   have hw5 : IntKind.u64.wrap ((k : Int) + 1) = ((k + 1 : Nat) : Int) := by rw [IntKind.wrap_u64]; omega
   have HPM : Box (f + (st + k) % n = p) := ⟨by rw [hmm, hp]⟩
   have HLE : Box (X.length <= 1000000) := ⟨HLEN.out k wr u10 X fpk hk HG.out⟩
   generalize ((st + k : Nat) : Int) = q at hw1 ht ht2
   clear hmm hp hnn hml
   go_upto_region 9 with (go_at_call 16; refine HC.out.mono ?_; rintro e x1 ⟨R, fp1, rfl, q1, q2, q3, q4, q5⟩; have H1 : Box (Disk.Cx w0 x1 D fp1 (Disk.rdOk (rdD d (pcs f n st k)) (p : Int)) /\ Disk.Fol wr fpk x1 fp1 /\ Disk.Loc x1 fp1 R (Disk.lat d p) 114 /\ wr.heap.size <= R /\ (Disk.lat d p).length = 192 /\ Byt (Disk.lat d p)) := ⟨q1, q2, q3, q4, q5⟩; clear q1 q2 q3 q4 q5)
   have HOW : Box (x1.ownsRow w1.heap.size 168 2 u10 X.length (X.map stc).flatten /\ w1.heap.size <= x1.heap.size) := ⟨(HG.out.mid H1.out.2.1).1.row, Nat.le_trans HG.out.fol.t.size H1.out.2.1.t.size⟩
   clear HC
   go_wp2_with (first
    | (refine atBuild 168 ?_; refine wpList_run rfl _ _ (exec_built 168 [(0, .tmp 40), (1, .tmp 41)] rfl [(0, .int .u32 (p : Int)), (1, .slice (some ⟨R, 0, none⟩) 192 192)] rfl _ (built_Stl _ _ _ _)) ?_)
    | (at_builtin; refine wpList_appS 125 168 Tryz.underlying125 2 32 _ infStl rfl (by decide) rfl (.tmp 38) (.tmp 43) rfl w1.heap.size X.length u10 (X.map stc).flatten [.int .u32 (p : Int), .slice (some ⟨R, 0, none⟩) 192 192] x1 rfl rfl rfl HOW.out.1 rfl (by simp [Value.oneCell']) HLE.out (by decide) HOW.out.2 ?_; intro v2 x2 a1 a2 a3; have H2 : Box (∃ X' fp', RdK w0 w1 x2 D fp d (pcs f n st (k + 1)) v2 X' fp') := ⟨HST.out R wr x1 x2 u10 v2 X fpk fp1 hlt HPM.out HG.out H1.out.1 H1.out.2.1 H1.out.2.2.1 H1.out.2.2.2.1 H1.out.2.2.2.2 a1 a2 a3⟩; clear a1 a2 a3))
   go_roundw
   case rel =>
    obtain ⟨X', fp', h⟩ := H2.out
    exact ⟨k + 1, X', fp', by omega, by go_num, ⟨h⟩⟩
   case measure => simp [intOf]; omega
  ·have hlt1 : decide ((k : Int) < (ct : Int)) = false := by simp; omega
   obtain rfl : k = ct := by omega
   go_wp2
   go_ret2
   exact ⟨u10, X, fpk, rfl, HEN.out wr u10 X fpk HG.out⟩
end Go.Proofs.YtjdjbjedfbmgpaaGreatDoor
namespace Go.Proofs.YtjdjbjedfbmgpaaGreatDoor
open Go.RowKit Plain
attribute [local go_sem] Oper.semAt_some
def chn (L : List (Nat × List Int)) : List Int := L.foldl (fun t x => lnk t (x.1 : Int) x.2) z32
theorem chn_snoc (L : List (Nat × List Int)) (x : Nat × List Int) : chn (L ++ [x]) = lnk (chn L) (x.1 : Int) x.2 := by simp [chn]
theorem chn_len (L : List (Nat × List Int)) : (chn L).length = 32 /\ Byt (chn L) := by
 rcases List.eq_nil_or_concat L with rfl | ⟨L, x, rfl⟩
 ·exact ⟨len_z32, byt_z32⟩
 ·rw [List.concat_eq_append, chn_snoc]
  exact ⟨length_dsha _, byt_dsha _⟩
theorem all_u8s (L : List Int) : (u8s L).all (·.oneCell') = true := by simp [u8s, Value.oneCell']
theorem Slots.at {w : World} {B n c : Nat} {a : Option Addr} {X : List Sl} (h : Slots w B (.slice a n c) X) (hn : X.length = n) (k : Nat) (hk : k < X.length) : ∃ b, a = some ⟨b, 0, none⟩ /\ w.rangeAt b (0 + k * 2) (stc X[k]) /\ b < w.heap.size := by
 have hr := h.row
 rw [hn] at hr
 rcases hr.2 with ⟨_, h0⟩ | ⟨g, cap, cur, h3, _, hg, _⟩
 ·omega
 ·simp only [Value.slice.injEq, true_and] at h3
  obtain ⟨rfl, rfl⟩ := h3
  obtain ⟨b, o, e, hlt, hh⟩ := own_tb (f := stc) (fun _ => rfl) hr hn (by omega)
  cases e
  exact ⟨g, rfl, hh k hk, hlt⟩
theorem Slots.form {w : World} {B : Nat} {v : Value} {X : List Sl} (h : Slots w B v X) : ∃ a c, v = .slice a X.length c := by
 rcases h.row.2 with ⟨h1, h2⟩ | ⟨g, cap, cur, rfl, _⟩
 ·exact ⟨none, 0, by rw [h1, h2]⟩
 ·exact ⟨_, _, rfl⟩
theorem range_u8 {w : World} {g : Nat} {L : List Int} {t : TypeId} (h : w.heap[g]? = some (.cells (u8s L) t (0, 0))) : w.rangeAt g 0 (L.map (Value.int .u8)) := fun i v hv => by
 rw [cell_of_row _ _ _ _ _ _ h, Nat.zero_add]
 simpa [u8s] using hv
structure ChR (w wr : World) (S : Nat) (L : List (Nat × List Int)) : Prop where
 r0 : wr.heap[S]? = some (.cells (u8s z32) 23 (0, 0))
 r1 : wr.heap[S + 1]? = some (.cells (u8s (chn L)) 23 (0, 0))
 bel : Below w.heap.size w wr
set_option maxHeartbeats 4000000 in
theorem chain_v {w : World} {B : Nat} {v : Value} {X : List Sl} (h : Slots w B v X) (hT : Dig.Tabs w) (hl : X.length <= 1000000) :
  Calls Tryz.prog 54 #[v] w fun e w' => e = .returned (.agg (u8s (chn (X.map spl)))) /\ Below w.heap.size w w' := by
 obtain ⟨a, c, rfl⟩ := h.form
 obtain ⟨n, hn⟩ : ∃ n, X.length = n := ⟨_, rfl⟩
 rw [hn] at h hl ⊢
 obtain ⟨S, hS⟩ : ∃ S, w.heap.size = S := ⟨_, rfl⟩
 obtain ⟨w1, hw1⟩ : ∃ w1, (w.alloc (.cells (u8s z32) 23)).alloc (.cells (u8s z32) 23) = w1 := ⟨_, rfl⟩
 have hb1 : Below w.heap.size w w1 := by rw [<- hw1]; exact ((Below.refl _ _).alloc (Nat.le_refl _) _).alloc (by simp) _
 have H0 : Box (ChR w w1 S ((X.map spl).take 0)) := ⟨⟨by rw [<- hw1]; exact al_old (al_at hS), by rw [<- hw1]; exact al_at (by simp [hS]), hb1⟩⟩
 have hs2 : (w.alloc (.cells (u8s z32) 23)).heap.size = S + 1 := by simp [hS]
 have HSS : Box (w.heap.size = S) := ⟨hS⟩
 have HX : Box (∀ wr, Below w.heap.size w wr -> ∀ k (hk : k < X.length), ∃ b, a = some ⟨b, 0, none⟩ /\ wr.rangeAt b (0 + k * 2) (stc X[k]) /\ b < wr.heap.size) := ⟨fun wr hb k hk => (h.to hb).at hn k hk⟩
 have HLK : Box (∀ (wr y : World) (k : Nat) (hk : k < X.length) (T : List Int), chn ((X.map spl).take k) = T -> Below w.heap.size w wr -> Below wr.heap.size wr y -> Calls Tryz.prog 29 #[.agg (u8s T), .int .u32 (X[k].p : Int), .slice (some ⟨X[k].g, 0, none⟩) 192 192] y fun e w' => e = .returned (.agg (u8s (chn ((X.map spl).take (k + 1))))) /\ Below y.heap.size y w') := ⟨fun wr y k hk T hTT hb hy => by
  have o := (h.to (below_to hb hy)).byt X[k] (List.getElem_mem hk)
  have hc := chn_len ((X.map spl).take k)
  have hk2 : k < (X.map spl).length := by simpa using hk
  rw [List.take_succ_eq_append_getElem hk2, chn_snoc, hTT, List.getElem_map]
  exact link_any T _ _ 192 192 _ y (hT.below (below_to hb hy)) (by rw [<- hTT]; exact hc.1) (by rw [<- hTT]; exact hc.2) ⟨by omega, by have := o.pl; omega⟩ o.bytes (by omega) (by omega) (by omega)⟩
 have HN : Box (X.length = n) := ⟨hn⟩
 have HU : Box ((Tryz.prog.info? 23).map (·.size) = some (u8s z32).size /\ ∀ L : List (Nat × List Int), (Tryz.prog.info? 23).map (·.size) = some (u8s (chn L)).size /\ (Tryz.prog.info? 23).map (·.size) = some ((chn L).map (Value.int .u8)).length) := ⟨by rw [size_u8s, len_z32]; exact infoSum, fun L => ⟨by rw [size_u8s, (chn_len L).1]; exact infoSum, by rw [List.length_map, (chn_len L).1]; exact infoSum⟩⟩
 clear h hT hb1 hn hS
 go_enter Tryz.func54, Tryz.ntmps54
 go_upto_region 2 with (refine atAlloc _ ?_; refine wpList_run rfl _ _ (exec_alloc 23 rfl _ zeroSum) ?_)
 (try rw [hs2])
 (try simp only [HSS.out, hw1])
 clear hw1 hs2
 go_wp2
 go_loopw [8] (fun i wr => ∃ k : Nat, k <= n /\ i = .int .i64 (k : Int) /\ Box (ChR w wr S ((X.map spl).take k))) (fun i _ => n - (intOf i).toNat)
 case atStart => exact ⟨0, Nat.zero_le _, rfl, H0⟩
 case round =>
  clear H0
  obtain ⟨k, hk, rfl, HG⟩ := hrel
  by_cases hlt : k < n
  ·have hlt1 : decide ((k : Int) < (n : Int)) = true := by simp; omega
   have hkX : k < X.length := by rw [HN.out]; exact hlt
   obtain ⟨b, rfl, hr, hbl⟩ := HX.out wr HG.out.bel k hkX
   have HR : Box (wr.rangeAt b (0 + k * 2) (stc X[k])) := ⟨hr⟩
   have HK : Box (k < n) := ⟨hlt⟩
   obtain ⟨T, hTT⟩ : ∃ T, chn ((X.map spl).take k) = T := ⟨_, rfl⟩
   obtain ⟨G, hG⟩ : ∃ G, wr.heap.size = G := ⟨_, rfl⟩
   have hGl : S + 1 < G := by rw [<- hG]; exact (Array.getElem?_eq_some_iff.1 HG.out.r1).1
   have HCL : Box _ := ⟨fun y => HLK.out wr y k hkX T hTT HG.out.bel⟩
   have HTU : Box ((Tryz.prog.info? 23).map (·.size) = some (T.map (Value.int .u8)).length /\ ∀ y, Below wr.heap.size wr y -> y.rangeAt (S + 1) 0 (T.map (Value.int .u8)) /\ y.heap[S + 1]? = some (.cells (u8s T) 23 (0, 0))) := ⟨by rw [<- hTT]; exact (HU.out.2 _).2, fun y hy => by
    have := (hy.block (S + 1) (by omega)).trans HG.out.r1
    rw [hTT] at this
    exact ⟨range_u8 this, this⟩⟩
   have HEN : Box (∀ y y2, Below wr.heap.size wr y -> Below y.heap.size y y2 -> ChR w (y2.setRow (S + 1) (u8s (chn ((X.map spl).take (k + 1))))) S ((X.map spl).take (k + 1))) := ⟨fun y y2 hy hy2 => by
    have hb := below_to hy hy2
    have r1 := (hb.block (S + 1) (by omega)).trans HG.out.r1
    refine ⟨?_, setRow_heap _ _ _ _ _ _ r1, below_setRow (below_to HG.out.bel hb) (by have := HSS.out; omega) _⟩
    rw [setRow_other _ _ _ _ (by omega)]
    exact (hb.block S (by omega)).trans HG.out.r0⟩
   obtain ⟨⟨p, g, bs⟩, hx⟩ : ∃ x, X[k] = x := ⟨_, rfl⟩
   obtain ⟨T2, hT2⟩ : ∃ T2, chn ((X.map spl).take (k + 1)) = T2 := ⟨_, rfl⟩
   have HT2 : Box (chn ((X.map spl).take (k + 1)) = T2 /\ (Tryz.prog.info? 23).map (·.size) = some (u8s T2).size /\ (u8s T).size = (u8s T2).size) := ⟨hT2, by rw [<- hT2]; exact (HU.out.2 _).1, by rw [size_u8s, size_u8s, <- hT2, <- hTT, (chn_len _).1, (chn_len _).1]⟩
   have HHG : Box (wr.heap.size = G) := ⟨hG⟩
   rw [hx] at HR HCL
   simp only [hT2, stc] at HR HCL HEN
   clear hx hT2 hTT hr hG
   go_upto_region 5 with (first
    | (refine atIdx 125 ?_; refine wpList_run rfl _ _ (exec_idxT 125 168 Tryz.underlying125 2 infoStl _ _ rfl b 0 n c k rfl rfl HK.out) ?_)
    | (refine atLoad 168 ?_; refine wpList_ldMid rfl 168 _ _ rfl Tryz.underlying168 rfl b (0 + k * 2) rfl [.int .u32 (p : Int), .slice (some ⟨g, 0, none⟩) 192 192] infoStl HR.out ?_)
    | (refine atAlloc _ ?_; refine wpList_run rfl _ _ (exec_alloc 168 rfl _ zeroStl) ?_)
    | (refine atStore _ ?_; refine wpList_newRow wr #[.int .u32 0, .slice none 0 0] #[.int .u32 (p : Int), .slice (some ⟨g, 0, none⟩) 192 192] infoStl rfl (by simp [Value.oneCell']) rfl _ _ rfl rfl rfl rfl ?_; intro x1 h1 hb1; have H1 : Box (x1.heap[wr.heap.size]? = some (.cells #[.int .u32 (p : Int), .slice (some ⟨g, 0, none⟩) 192 192] 168 (0, 0)) /\ Below wr.heap.size wr x1) := ⟨h1, hb1⟩; clear h1 hb1))
   (try simp only [HHG.out])
   have c0 : x1.cell? ⟨G, 0, none⟩ = some (.int .u32 (p : Int)) := by have := H1.out.1; rw [HHG.out] at this; rw [cell_of_row _ _ _ _ _ _ this]; rfl
   have c1 : x1.cell? ⟨G, 1, none⟩ = some (.slice (some ⟨g, 0, none⟩) 192 192) := by have := H1.out.1; rw [HHG.out] at this; rw [cell_of_row _ _ _ _ _ _ this]; rfl
   have HTR : Box (x1.rangeAt (S + 1) 0 (T.map (Value.int .u8))) := ⟨(HTU.out.2 x1 H1.out.2).1⟩
   have HC1 : Box _ := ⟨HCL.out x1 H1.out.2⟩
   go_wp2_with (first
    | (refine atLoad 23 ?_; refine wpList_ldMid rfl 23 _ _ rfl Tryz.underlying23 rfl (S + 1) 0 rfl (T.map (Value.int .u8)) HTU.out.1 HTR.out ?_)
    | (go_at_call 29; refine HC1.out.mono ?_; rintro e x2 ⟨rfl, hb⟩; have H2 : Box (Below x1.heap.size x1 x2 /\ x2.heap[S + 1]? = some (.cells (u8s T) 23 (0, 0))) := ⟨hb, (HTU.out.2 x2 (below_to H1.out.2 hb)).2⟩; clear hb)
    | (refine atStore _ ?_; refine wpList_store_row rfl 23 _ _ rfl (S + 1) (u8s T2) rfl rfl 23 (u8s T) H2.out.2 HT2.out.2.1 HT2.out.2.2 (all_u8s T2) ?_))
   go_roundw
   case rel => exact ⟨k + 1, by omega, by go_num, ⟨HEN.out x1 x2 H1.out.2 H2.out.1⟩⟩
   case measure => simp [intOf]; omega
  ·have hlt1 : decide ((k : Int) < (n : Int)) = false := by simp; omega
   obtain rfl : k = n := by omega
   obtain ⟨T, hTT⟩ : ∃ T, chn (X.map spl) = T := ⟨_, rfl⟩
   have HE : Box (ChR w wr S (X.map spl)) := ⟨by have := HG.out; rwa [List.take_of_length_le (by rw [List.length_map, HN.out]; exact Nat.le_refl _)] at this⟩
   have HRT : Box (wr.rangeAt (S + 1) 0 (T.map (Value.int .u8)) /\ (Tryz.prog.info? 23).map (·.size) = some (T.map (Value.int .u8)).length /\ (Tryz.prog.info? 23).map (·.size) = some (u8s T).size /\ (u8s z32).size = (u8s T).size) := ⟨by have := HE.out.r1; rw [hTT] at this; exact range_u8 this, by rw [<- hTT]; exact (HU.out.2 _).2, by rw [<- hTT]; exact (HU.out.2 _).1, by rw [size_u8s, size_u8s, <- hTT, (chn_len _).1, len_z32]⟩
   have HBW : Box (Below w.heap.size w (wr.setRow S (u8s T))) := ⟨below_setRow HE.out.bel (by have := HSS.out; omega) _⟩
   have HTT : Box (chn (X.map spl) = T) := ⟨hTT⟩
   clear hTT
   go_wp2_with (first
    | (refine atLoad 23 ?_; refine wpList_ldMid rfl 23 _ _ rfl Tryz.underlying23 rfl (S + 1) 0 rfl (T.map (Value.int .u8)) HRT.out.2.1 HRT.out.1 ?_)
    | (refine atStore _ ?_; refine wpList_store_row rfl 23 _ _ rfl S (u8s T) rfl rfl 23 (u8s z32) HE.out.r0 HRT.out.2.2.1 HRT.out.2.2.2 (all_u8s T) ?_))
   refine bodyPost_ret (results_cell (t := 2) rfl _ _ S (T.map (Value.int .u8)) _ rfl (range_u8 (setRow_heap _ _ _ _ _ _ HE.out.r0)) Tryz.underlying23 rfl HRT.out.2.1) rfl ?_
   exact ⟨by rw [HTT.out]; rfl, HBW.out⟩
end Go.Proofs.YtjdjbjedfbmgpaaGreatDoor
namespace Go.Proofs.YtjdjbjedfbmgpaaGreatDoor
open Go.RowKit Plain
attribute [local go_sem] Oper.semAt_some
def Opn (K : List Int) (x : Nat × List Int) : Prop := Seal.Fit x.2 176 /\ fitR (Seal.op K (x.1 : Int) x.2 176)
def opR (K : List Int) (x : Nat × List Int) : (Int × List Int) × Bool := getP (Seal.op K (x.1 : Int) x.2 176)
theorem all_rc0 : (rcc zrc).toArray.all (·.oneCell') = true := all_rcc zrc
set_option maxHeartbeats 4000000 in
theorem opened_v {w : World} {B : Nat} {x : Sl} (h : OSl w B x) (hT : Seal.Tab w) (K : List Int) (hK : K.length = 32 /\ Byt K) :
  Calls Tryz.prog 82 #[.agg (u8s K), .agg (stc x).toArray] w fun e w' => ((¬ Opn K (spl x) /\ e = .returned (.tuple #[.agg (rcc zrc).toArray, .int .i64 11])) ∨ (Opn K (spl x) /\ ∃ r, e = .returned (.tuple #[.agg (rcc r).toArray, .int .i64 0]) /\ rpl r = opR K (spl x) /\ r.m.bl = 160 /\ OIm w' w.heap.size r.m)) /\ Below w.heap.size w w' := by
 obtain ⟨S, hS⟩ : ∃ S, w.heap.size = S := ⟨_, rfl⟩
 obtain ⟨AK, hAK⟩ : ∃ A, u8s K = A := ⟨_, rfl⟩
 obtain ⟨p, g, bs⟩ := x
 have hbs := h.bytes
 have hpl : p <= 4096 := h.pl
 dsimp only at hbs
 simp only [stc, hAK]
 obtain ⟨w1, hw1⟩ : ∃ w1, ((w.alloc (.cells AK 23)).alloc (.cells #[.int .u32 (p : Int), .slice (some ⟨g, 0, none⟩) 192 192] 168)).alloc (.cells (rcc zrc).toArray 95) = w1 := ⟨_, rfl⟩
 have hb1 : Below w.heap.size w w1 := by rw [<- hw1]; exact (((Below.refl _ _).alloc (Nat.le_refl _) _).alloc (by simp) _).alloc (by simp; omega) _
 have k1 : w1.heap[S]? = some (.cells AK 23 (0, 0)) := by rw [<- hw1]; exact al_old (al_old (al_at hS))
 have k2 : w1.heap[S + 1]? = some (.cells #[.int .u32 (p : Int), .slice (some ⟨g, 0, none⟩) 192 192] 168 (0, 0)) := by rw [<- hw1]; exact al_old (al_at (by simp [hS]))
 have k3 : w1.heap[S + 2]? = some (.cells (rcc zrc).toArray 95 (0, 0)) := by rw [<- hw1]; exact al_at (by simp [hS])
 have hs1 : w1.heap.size = S + 3 := by rw [<- hw1]; simp [hS]
 have c0 : w1.cell? ⟨S + 1, 0, none⟩ = some (.int .u32 (p : Int)) := by rw [cell_of_row _ _ _ _ _ _ k2]; rfl
 have c1 : w1.cell? ⟨S + 1, 1, none⟩ = some (.slice (some ⟨g, 0, none⟩) 192 192) := by rw [cell_of_row _ _ _ _ _ _ k2]; rfl
 have HRK : Box (w1.rangeAt S 0 (K.map (Value.int .u8)) /\ (Tryz.prog.info? 23).map (·.size) = some (K.map (Value.int .u8)).length /\ (K.map (Value.int .u8)).toArray = AK) := ⟨by rw [<- hAK] at k1; exact range_u8 k1, by rw [List.length_map, hK.1]; exact infoSum, by rw [<- hAK]; rfl⟩
 have H3 : Box (∀ y, Below w1.heap.size w1 y -> y.heap[S + 2]? = some (.cells (rcc zrc).toArray 95 (0, 0))) := ⟨fun y hy => (hy.block (S + 2) (by omega)).trans k3⟩
 have HB : Box (Below w.heap.size w w1 /\ w.heap.size = S /\ w1.heap.size = S + 3) := ⟨hb1, hS, hs1⟩
 have hs2 : (w.alloc (.cells AK 23)).heap.size = S + 1 := by simp [hS]
 have hs3 : ((w.alloc (.cells AK 23)).alloc (.cells #[.int .u32 (p : Int), .slice (some ⟨g, 0, none⟩) 192 192] 168)).heap.size = S + 2 := by simp [hS]
 by_cases hf : Seal.Fit bs 176
 ·have HOP : Box (Calls Tryz.prog 101 #[.agg AK, .int .u32 (p : Int), .slice (some ⟨g, 0, none⟩) 192 192, .int .i64 176] w1 fun e w' => ∃ a', e = .returned (.tuple #[.int .u64 (num bs 0 8), .slice a' 176 176, .int .i64 0]) /\ Bytes w' a' 176 (Seal.op K (p : Int) bs 176) /\ Below w1.heap.size w1 w') := ⟨by
   have := Seal.open_ok K bs (p : Int) 176 (some ⟨g, 0, none⟩) 192 w1 (hT.below hb1) hK.1 hK.2 ⟨by omega, by omega⟩ (.inr rfl) (hbs.below hb1) (by omega) hf
   rw [hAK] at this
   exact this⟩
  obtain ⟨O, hO⟩ : ∃ O, Seal.op K (p : Int) bs 176 = O := ⟨_, rfl⟩
  rw [hO] at HOP
  generalize num bs 0 8 = ver at HOP
  by_cases hr : fitR O
  ·have HGE : Box (∀ y a', Bytes y a' 176 O -> Calls Tryz.prog 102 #[.slice a' 176 176] y fun e w' => ∃ r, e = .returned (.tuple #[.agg (rcc r).toArray, .int .i64 0]) /\ rpl r = getP O /\ r.m.bl = 160 /\ OIm w' y.heap.size r.m /\ Below y.heap.size y w') := ⟨fun y a' hy => rcget_ok a' 176 O y hy (by omega) hr⟩
   have HO : Box (Opn K (spl ⟨p, g, bs⟩) /\ opR K (spl ⟨p, g, bs⟩) = getP O) := ⟨⟨hf, by show fitR (Seal.op K (p : Int) bs 176); rw [hO]; exact hr⟩, by show getP (Seal.op K (p : Int) bs 176) = _; rw [hO]⟩
   clear h hbs hb1 k1 k2 k3 hs1 hS hAK hK hT hf hr hO
   go_enter Tryz.func82, Tryz.ntmps82
   go_upto_region 1 with (refine atAlloc _ ?_; refine wpList_run rfl _ _ (exec_alloc 95 rfl _ zeroRc) ?_)
   (try rw [hs3])
   (try rw [hs2])
   (try simp only [HB.out.2.1])
   rw [show (w.alloc (.cells AK 23) |>.alloc (.cells #[.int .u32 (p : Int), .slice (some ⟨g, 0, none⟩) 192 192] 168) |>.alloc (.cells #[.int .u64 0, .slice none 0 0, .bool false] 95)) = w1 from hw1]
   clear hs2 hs3 hw1
   go_upto_region 4 with (first
    | (refine atLoad 23 ?_; refine wpList_ldMid rfl 23 _ _ rfl Tryz.underlying23 rfl S 0 rfl (K.map (Value.int .u8)) HRK.out.2.1 HRK.out.1 ?_; rw [HRK.out.2.2])
    | (go_at_call 101; refine HOP.out.mono ?_; rintro e x2 ⟨a', rfl, hby, hb⟩; have H2 : Box (Bytes x2 a' 176 O /\ Below w1.heap.size w1 x2) := ⟨hby, hb⟩; clear hby hb))
   have HG2 : Box _ := ⟨HGE.out x2 a' H2.out.1⟩
   go_wp2_with (first
    | (go_at_call 102; refine HG2.out.mono ?_; rintro e x3 ⟨⟨⟨mb, ma, ml, mc, ms⟩, b⟩, rfl, q1, q2, q3, q4⟩; have HX : Box (rpl ⟨⟨mb, ma, ml, mc, ms⟩, b⟩ = getP O /\ ml = 160 /\ OIm x3 x2.heap.size ⟨mb, ma, ml, mc, ms⟩ /\ Below w1.heap.size w1 x3 /\ x3.heap[S + 2]? = some (.cells (rcc zrc).toArray 95 (0, 0))) := ⟨q1, q2, q3, below_to H2.out.2 q4, H3.out x3 (below_to H2.out.2 q4)⟩; simp only [rcc]; clear q1 q2 q3 q4)
    | (refine atStore _ ?_; refine wpList_store_row rfl 95 _ _ rfl (S + 2) #[.int .u64 mb, .slice ma ml mc, .bool b] rfl rfl 95 (rcc zrc).toArray HX.out.2.2.2.2 infoRc rfl (by simp [Value.oneCell']) ?_))
   refine bodyPost_ret (results_row2 (t := 4) (u := 5) rfl _ Tryz.underlying95 rfl _ _ (S + 2) #[.int .u64 mb, .slice ma ml mc, .bool b] infoRc rfl (setRow_heap _ _ _ _ _ _ HX.out.2.2.2.2)) rfl ?_
   have hbb := HB.out
   refine ⟨.inr ⟨HO.out.1, ⟨⟨mb, ma, ml, mc, ms⟩, b⟩, rfl, by rw [HO.out.2]; exact HX.out.1, HX.out.2.1, ?_⟩, below_setRow (below_to hbb.1 HX.out.2.2.2.1) (by omega) _⟩
   have o := HX.out.2.2.1
   have hz := H2.out.2.size
   refine ⟨own_low2 (own_same o.own (fun k hk => ?_)) (by omega), o.byt, o.num⟩
   have hk1 := (o.own.lt k hk).1
   exact (but_setRow x3 (S + 2) _).block k (o.own.lt k hk).2 (by omega)
  ·have HGE : Box (∀ y a', Bytes y a' 176 O -> Calls Tryz.prog 102 #[.slice a' 176 176] y fun e w' => e = .returned (.tuple #[.agg (rcc zrc).toArray, .int .i64 11]) /\ Below y.heap.size y w') := ⟨fun y a' hy => rcget_no a' 176 176 O y hy (by unfold maxLen; omega) (by omega) hr⟩
   have HO : Box (¬ Opn K (spl ⟨p, g, bs⟩)) := ⟨fun hq => hr (by rw [<- hO]; exact hq.2)⟩
   clear h hbs hb1 k1 k2 k3 hs1 hS hAK hK hT hf hr hO
   go_enter Tryz.func82, Tryz.ntmps82
   go_upto_region 1 with (refine atAlloc _ ?_; refine wpList_run rfl _ _ (exec_alloc 95 rfl _ zeroRc) ?_)
   (try rw [hs3])
   (try rw [hs2])
   (try simp only [HB.out.2.1])
   rw [show (w.alloc (.cells AK 23) |>.alloc (.cells #[.int .u32 (p : Int), .slice (some ⟨g, 0, none⟩) 192 192] 168) |>.alloc (.cells #[.int .u64 0, .slice none 0 0, .bool false] 95)) = w1 from hw1]
   clear hs2 hs3 hw1
   go_upto_region 4 with (first
    | (refine atLoad 23 ?_; refine wpList_ldMid rfl 23 _ _ rfl Tryz.underlying23 rfl S 0 rfl (K.map (Value.int .u8)) HRK.out.2.1 HRK.out.1 ?_; rw [HRK.out.2.2])
    | (go_at_call 101; refine HOP.out.mono ?_; rintro e x2 ⟨a', rfl, hby, hb⟩; have H2 : Box (Bytes x2 a' 176 O /\ Below w1.heap.size w1 x2) := ⟨hby, hb⟩; clear hby hb))
   have HG2 : Box _ := ⟨HGE.out x2 a' H2.out.1⟩
   go_wp2_with (first
    | (go_at_call 102; refine HG2.out.mono ?_; rintro e x3 ⟨rfl, q4⟩; have HX : Box (Below w1.heap.size w1 x3 /\ x3.heap[S + 2]? = some (.cells (rcc zrc).toArray 95 (0, 0))) := ⟨below_to H2.out.2 q4, H3.out x3 (below_to H2.out.2 q4)⟩; clear q4)
    | (refine atStore _ ?_; refine wpList_store_row rfl 95 _ _ rfl (S + 2) (rcc zrc).toArray rfl rfl 95 (rcc zrc).toArray HX.out.2 infoRc rfl all_rc0 ?_))
   refine bodyPost_ret (results_row2 (t := 4) (u := 5) rfl _ Tryz.underlying95 rfl _ _ (S + 2) (rcc zrc).toArray infoRc rfl (setRow_heap _ _ _ _ _ _ HX.out.2)) rfl ?_
   have hbb := HB.out
   exact ⟨.inl ⟨HO.out, rfl⟩, below_setRow (below_to hbb.1 HX.out.1) (by omega) _⟩
 ·have HOP : Box (Calls Tryz.prog 101 #[.agg AK, .int .u32 (p : Int), .slice (some ⟨g, 0, none⟩) 192 192, .int .i64 176] w1 fun e w' => e = .returned (.tuple #[.int .u64 0, .slice none 0 0, .int .i64 11]) /\ Below w1.heap.size w1 w') := ⟨by
   have := Seal.open_form K bs (p : Int) 176 (some ⟨g, 0, none⟩) 192 w1 (.inr rfl) (hbs.below hb1) (by omega) hf
   rw [hAK] at this
   exact this⟩
  have HO : Box (¬ Opn K (spl ⟨p, g, bs⟩)) := ⟨fun hq => hf hq.1⟩
  clear h hbs hb1 k1 k2 k3 hs1 hS hAK hK hT hf
  go_enter Tryz.func82, Tryz.ntmps82
  go_upto_region 1 with (refine atAlloc _ ?_; refine wpList_run rfl _ _ (exec_alloc 95 rfl _ zeroRc) ?_)
  (try rw [hs3])
  (try rw [hs2])
  (try simp only [HB.out.2.1])
  rw [show (w.alloc (.cells AK 23) |>.alloc (.cells #[.int .u32 (p : Int), .slice (some ⟨g, 0, none⟩) 192 192] 168) |>.alloc (.cells #[.int .u64 0, .slice none 0 0, .bool false] 95)) = w1 from hw1]
  clear hs2 hs3 hw1
  go_upto_region 3 with (first
   | (refine atLoad 23 ?_; refine wpList_ldMid rfl 23 _ _ rfl Tryz.underlying23 rfl S 0 rfl (K.map (Value.int .u8)) HRK.out.2.1 HRK.out.1 ?_; rw [HRK.out.2.2])
   | (go_at_call 101; refine HOP.out.mono ?_; rintro e x2 ⟨rfl, hb⟩; have H2 : Box (Below w1.heap.size w1 x2 /\ x2.heap[S + 2]? = some (.cells (rcc zrc).toArray 95 (0, 0))) := ⟨hb, H3.out x2 hb⟩; clear hb))
  go_wp2_with (first
   | (refine atBuild 95 ?_; refine wpList_run rfl _ _ (exec_built 95 [] rfl [] rfl _ built_R0) ?_)
   | (refine atStore _ ?_; refine wpList_store_row rfl 95 _ _ rfl (S + 2) (rcc zrc).toArray rfl rfl 95 (rcc zrc).toArray H2.out.2 infoRc rfl all_rc0 ?_))
  refine bodyPost_ret (results_row2 (t := 4) (u := 5) rfl _ Tryz.underlying95 rfl _ _ (S + 2) (rcc zrc).toArray infoRc rfl (setRow_heap _ _ _ _ _ _ H2.out.2)) rfl ?_
  have hbb := HB.out
  exact ⟨.inl ⟨HO.out, rfl⟩, below_setRow (below_to hbb.1 H2.out.1) (by omega) _⟩
end Go.Proofs.YtjdjbjedfbmgpaaGreatDoor
