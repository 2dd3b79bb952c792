/-
 What the Go methods Flush and Crash of package disk do, and Write where it refuses or stops, for every disk. And what follows it.
-/
import Derived.Test.YtjdjbjedfbmgpaaGreatDoorQ09
set_option linter.unusedVariables false
set_option maxRecDepth 100000
set_option maxRecDepth 100000
namespace Go.Proofs.YtjdjbjedfbmgpaaGreatDoor.Disk.Plain
end Go.Proofs.YtjdjbjedfbmgpaaGreatDoor.Disk.Plain
namespace Go.Proofs.YtjdjbjedfbmgpaaGreatDoor.Disk
open Go.RowKit Go.Proofs.YtjdjbjedfbmgpaaGreatDoor.Plain Go.Proofs.YtjdjbjedfbmgpaaGreatDoor.Disk.Plain
set_option maxRecDepth 20000 in
set_option maxHeartbeats 2000000 in
theorem write_down (w : World) (D : Nat) (fp : Nat -> Prop) (d : Dk) (h : Is w D fp d) (i : Int) (a : Option Addr) (len cap : Nat) (hd : d.down = true) :
  Calls Tryz.prog 21 #[.pointer (some ⟨D, 0, none⟩), .int .i64 i, .slice a len cap] w fun e w' => e = .returned (.int .i64 13) /\ w = w' := by
 obtain ⟨P, uv, ov, h1, h2⟩ := h
 have H := ready_any w D P uv ov d h1
 rw [show rdy d = 13 by simp [rdy, hd]] at H
 have HR : Box _ := ⟨H⟩
 clear H h1 h2 hd
 go_enter Tryz.func21, Tryz.ntmps21
 go_wp2_with (go_at_call 43; refine HR.out.mono ?_; rintro e w' ⟨rfl, rfl⟩)
 go_ret
 exact ⟨rfl, rfl⟩
set_option maxRecDepth 20000 in
set_option maxHeartbeats 2000000 in
theorem write_stop (w : World) (D : Nat) (fp : Nat -> Prop) (d : Dk) (h : Is w D fp d) (i : Int) (a : Option Addr) (len cap : Nat) (hd : d.down = false) (hf : fit d i len = 0) (hs : d.st = true) (hl : d.left = 0) :
  Calls Tryz.prog 21 #[.pointer (some ⟨D, 0, none⟩), .int .i64 i, .slice a len cap] w fun e w' => e = .returned (.int .i64 13) /\ Nx D fp w w' { d with down := true } := by
 obtain ⟨P, uv, ov, h1, h2⟩ := h
 have H := ready_any w D P uv ov d h1
 rw [show rdy d = 0 by simp [rdy, hd]] at H
 have HR : Box _ := ⟨H⟩
 have H2 := fits_any w D P uv ov d h1 i a len cap
 rw [hf] at H2
 have HH : Box _ := ⟨H2⟩
 obtain ⟨-, -, -, c3, c4, c5, fz⟩ := h1.cells
 have f3 := fz 3
 have HX : Box _ := ⟨h1.set3 h2 true⟩
 rw [hs] at c4
 rw [hl] at c5
 clear H H2 h1 h2 hd hf hs hl fz
 go_enter Tryz.func21, Tryz.ntmps21
 go_wp2_with (first
  | (go_at_call 43; refine HR.out.mono ?_; rintro e w' ⟨rfl, rfl⟩)
  | (go_at_call 47; refine HH.out.mono ?_; rintro e w' ⟨rfl, rfl⟩))
 go_ret
 exact ⟨rfl, HX.out⟩
def upd (pl : Nat -> List Int) (p : Nat) (b : List Int) : Nat -> List Int := fun k => if k = p then b else pl k
def lay (L : List (Nat × List Int)) (pl : Nat -> List Int) : Nat -> List Int := L.foldl (fun f x => upd f x.1 x.2) pl
end Go.Proofs.YtjdjbjedfbmgpaaGreatDoor.Disk
namespace Go.Proofs.YtjdjbjedfbmgpaaGreatDoor.Disk.Plain
end Go.Proofs.YtjdjbjedfbmgpaaGreatDoor.Disk.Plain
namespace Go.Proofs.YtjdjbjedfbmgpaaGreatDoor.Disk
open Go.RowKit Go.Proofs.YtjdjbjedfbmgpaaGreatDoor.Plain Go.Proofs.YtjdjbjedfbmgpaaGreatDoor.Disk.Plain
def kp (L : List (Nat × List Int)) (K : List Bool) : List (Nat × List Int) := (L.zipIdx.filter (fun x => K.getD x.2 false)).map Prod.fst
def crOk (d : Dk) (K : List Bool) : Dk := { d with pl := lay (kp d.uw K) d.pl, uw := [], down := false, st := false, left := 0 }
end Go.Proofs.YtjdjbjedfbmgpaaGreatDoor.Disk
namespace Go.Proofs.YtjdjbjedfbmgpaaGreatDoor.Disk.Plain
end Go.Proofs.YtjdjbjedfbmgpaaGreatDoor.Disk.Plain
namespace Go.Proofs.YtjdjbjedfbmgpaaGreatDoor.Disk
open Go.RowKit Go.Proofs.YtjdjbjedfbmgpaaGreatDoor.Plain Go.Proofs.YtjdjbjedfbmgpaaGreatDoor.Disk.Plain
end Go.Proofs.YtjdjbjedfbmgpaaGreatDoor.Disk
namespace Go.Proofs.YtjdjbjedfbmgpaaGreatDoor.Disk.Plain
end Go.Proofs.YtjdjbjedfbmgpaaGreatDoor.Disk.Plain
namespace Go.Proofs.YtjdjbjedfbmgpaaGreatDoor.Disk
open Go.RowKit Go.Proofs.YtjdjbjedfbmgpaaGreatDoor.Plain Go.Proofs.YtjdjbjedfbmgpaaGreatDoor.Disk.Plain
structure Cx (w0 w : World) (D : Nat) (fp : Nat -> Prop) (d : Dk) : Prop where
 is : Is w D fp d
 bel : Below w0.heap.size w0 w
 lo : ∀ k, fp k -> w0.heap.size <= k
 hi : ∀ k, fp k -> k < w.heap.size
structure Fol (w : World) (fp : Nat -> Prop) (w' : World) (fp' : Nat -> Prop) : Prop where
 t : Turned fp w w'
 k : ∀ k, k < w.heap.size -> ¬ fp k -> ¬ fp' k
structure Loc (w : World) (fp : Nat -> Prop) (g : Nat) (B : List Int) (t : TypeId) : Prop where
 row : w.heap[g]? = some (.cells (u8s B) t (0, 0))
 no : ¬ fp g
theorem Loc.bytes {w : World} {fp : Nat -> Prop} {g : Nat} {B : List Int} {t : TypeId} (h : Loc w fp g B t) (hB : Byt B) (n : Nat) (hn : B.length = n) : Bytes w (some ⟨g, 0, none⟩) n B := by
 subst hn
 exact bytes_of_row hB h.row
theorem Cx.step {w0 w w' : World} {D : Nat} {fp : Nat -> Prop} {d : Dk} (h : Cx w0 w D fp d) (hb : Below w.heap.size w w') : Cx w0 w' D fp d :=
 ⟨h.is.below hb, below_to h.bel hb, h.lo, fun k hk => Nat.lt_of_lt_of_le (h.hi k hk) hb.size⟩
theorem Cx.nx {w0 w w' : World} {D : Nat} {fp : Nat -> Prop} {d d' : Dk} (h : Cx w0 w D fp d) (n : Nx D fp w w' d') : ∃ fp', Cx w0 w' D fp' d' /\ Fol w fp w' fp' := by
 obtain ⟨f, i, t, s⟩ := n
 refine ⟨_, ⟨i.cut, h.bel.trans (t.below h.bel.size h.lo), fun k hk => ?_, fun k hk => hk.2⟩, ⟨t, fun k hk hn hf => (s k hf.1).elim hn (fun h => by omega)⟩⟩
 rcases s k hk.1 with h1 | h1
 ·exact h.lo k h1
 ·exact Nat.le_trans h.bel.size h1
theorem cx_new {w w' : World} {n : Nat} (i : Is w' (w.heap.size + 1) (fun k => w.heap.size <= k) (dk0 n)) (b : Below w.heap.size w w') : ∃ fp, Cx w w' (w.heap.size + 1) fp (dk0 n) :=
 ⟨_, i.cut, b, fun k hk => hk.1, fun k hk => hk.2⟩
theorem new_cx (w : World) (n : Nat) (hn : 1 <= n /\ n <= 4096) : Calls Tryz.prog 6 #[.int .i64 (n : Int)] w fun e w' => e = .returned (.tuple #[.pointer (some ⟨w.heap.size + 1, 0, none⟩), .int .i64 0]) /\ ∃ fp, Cx w w' (w.heap.size + 1) fp (dk0 n) :=
 (new_any w n hn).mono fun e w' ⟨h1, h2, h3⟩ => ⟨h1, cx_new h2 h3⟩
theorem write_cx {w0 w : World} {D : Nat} {fp : Nat -> Prop} {d : Dk} (C : Cx w0 w D fp d) (i : Nat) (a : Option Addr) (cap : Nat) (B : List Int) (hB : Bytes w a 192 B) (hap : ∀ ad, a = some ad -> ¬ fp ad.block) (hd : d.down = false) (hi : i < d.n) (hst : d.st = true -> d.left ≠ 0) (hl : 0 <= d.left /\ d.left <= 9223372036854775807) (ho : d.ops.length < 1000000) (hu : d.uw.length < 1000000) :
  Calls Tryz.prog 21 #[.pointer (some ⟨D, 0, none⟩), .int .i64 (i : Int), .slice a 192 cap] w fun e w' => e = .returned (.int .i64 0) /\ ∃ fp', Cx w0 w' D fp' (wrOk d i B) /\ Fol w fp w' fp' :=
 (write_ok w D fp d C.is i a cap B hB hap hd hi hst hl ho hu).mono fun e w' ⟨h1, h2⟩ => ⟨h1, C.nx h2⟩
theorem read_cx {w0 w : World} {D : Nat} {fp : Nat -> Prop} {d : Dk} (C : Cx w0 w D fp d) (i : Nat) (hd : d.down = false) (hi : i < d.n) (ho : d.ops.length < 1000000) (hu : d.uw.length < 1000000) :
  Calls Tryz.prog 16 #[.pointer (some ⟨D, 0, none⟩), .int .i64 (i : Int)] w fun e w' =>
   ∃ R fp', e = .returned (.tuple #[.slice (some ⟨R, 0, none⟩) 192 192, .int .i64 0]) /\ Cx w0 w' D fp' (rdOk d i) /\ Fol w fp w' fp' /\ Loc w' fp' R (lat d i) 114 /\ w.heap.size <= R /\ (lat d i).length = 192 /\ Byt (lat d i) := by
 have hlen : (lat d i).length = 192 /\ Byt (lat d i) := by
  obtain ⟨P, uv, ov, h1, _⟩ := C.is
  exact length_lat h1 i
 refine (read_ok w D fp d C.is i hd hi (by omega) (by omega)).mono ?_
 rintro e w' ⟨R, fp', rfl, h1, h2, h3, h4, h5, h6⟩
 refine ⟨R, _, rfl, ⟨h1.cut, C.bel.trans (h2.below C.bel.size C.lo), fun k hk => ?_, fun k hk => hk.2⟩, ⟨h2, fun k hk hn hf => (h3 k hf.1).elim hn (fun h => by omega)⟩, ⟨h6, fun h => h4 h.1⟩, h5, hlen⟩
 rcases h3 k hk.1 with h7 | h7
 ·exact C.lo k h7
 ·exact Nat.le_trans C.bel.size h7
theorem size_cx {w0 w : World} {D : Nat} {fp : Nat -> Prop} {d : Dk} (C : Cx w0 w D fp d) : Calls Tryz.prog 31 #[.pointer (some ⟨D, 0, none⟩)] w fun e w' => e = .returned (.int .i64 (d.n : Int)) /\ w = w' := by
 obtain ⟨P, uv, ov, h1, _⟩ := C.is
 exact size_any w D P uv ov d h1
theorem exec_make192 {o : Oper} {ρ : Operand -> Value} {w : World} (l c : Operand) (ho : o.op = .makeSlice 57 l c) (hl : ρ l = .int .i64 192) (hc : ρ c = .int .i64 192) :
  (execOp ρ o).run Tryz.prog w = .ok (.value (.slice (some ⟨w.heap.size, 0, none⟩) 192 192)) (w.alloc (.cells (u8s z192) 5)) := by
 have := exec_make (P := Tryz.prog) (o := o) (ρ := ρ) (w := w) 57 5 l c ho (.int .u8 0) 1 1 Tryz.underlying57 info5 192 hl hc (by decide) (by decide)
 have e : madeCells (Value.int .u8 0).cells (192 * 1) = u8s z192 := made_bytes 192
 rw [e] at this
 exact this
end Go.Proofs.YtjdjbjedfbmgpaaGreatDoor.Disk
namespace Go.Proofs.YtjdjbjedfbmgpaaGreatDoor.Disk.Plain
end Go.Proofs.YtjdjbjedfbmgpaaGreatDoor.Disk.Plain
namespace Go.Proofs.YtjdjbjedfbmgpaaGreatDoor.Disk
open Go.RowKit Go.Proofs.YtjdjbjedfbmgpaaGreatDoor.Plain Go.Proofs.YtjdjbjedfbmgpaaGreatDoor.Disk.Plain
theorem lastOf_snoc (L : List (Nat × List Int)) (x : Nat × List Int) (j : Nat) : lastOf (L ++ [x]) j = if x.1 = j then some x.2 else lastOf L j := by
 unfold lastOf
 rw [List.reverse_append]
 simp only [List.reverse_cons, List.reverse_nil, List.nil_append, List.cons_append, List.find?_cons]
 by_cases h : x.1 = j
 ·simp [h]
 ·have : (x.1 == j) = false := by simpa using h
  simp [this, h]
theorem snoc_ind {α : Type} {p : List α -> Prop} (L : List α) (nil : p []) (snoc : ∀ L x, p L -> p (L ++ [x])) : p L := by
 have : ∀ R : List α, p R.reverse := fun R => by
  induction R with
  | nil => exact nil
  | cons x R ih => rw [List.reverse_cons]; exact snoc _ _ ih
 have h := this L.reverse
 rwa [List.reverse_reverse] at h
theorem lat_wr (d : Dk) (i j : Nat) (B : List Int) : lat (wrOk d i B) j = if i = j then B else lat d j := by
 unfold lat
 rw [show (wrOk d i B).uw = d.uw ++ [(i, B)] from rfl, lastOf_snoc]
 split <;> rfl
def b7 : List Int := z192.set 0 7
def a1 : Dk := wrOk (dk0 2) 1 b7
def a2 : Dk := rdOk a1 1
def a3 : Dk := crOk a2 []
def a4 : Dk := rdOk a3 1
end Go.Proofs.YtjdjbjedfbmgpaaGreatDoor.Disk
namespace Go.Proofs.YtjdjbjedfbmgpaaGreatDoor.Disk.Plain
end Go.Proofs.YtjdjbjedfbmgpaaGreatDoor.Disk.Plain
namespace Go.Proofs.YtjdjbjedfbmgpaaGreatDoor.Disk
open Go.RowKit Go.Proofs.YtjdjbjedfbmgpaaGreatDoor.Plain Go.Proofs.YtjdjbjedfbmgpaaGreatDoor.Disk.Plain
structure Rd where
 n : Nat
 done : List (Nat × List Int)
 way : List (Nat × List Int)
 left : Int
 down : Bool
 ops : List (Int × Int)
def rc (x : Nat × List Int) : List Value := [.int .i64 (x.1 : Int), .string (strOfNums x.2)]
def rcs (L : List (Nat × List Int)) : List Value := (L.map rc).flatten
theorem rcs_snoc (L : List (Nat × List Int)) (x : Nat × List Int) : rcs (L ++ [x]) = rcs L ++ rc x := by simp [rcs]
theorem rcs_all (L : List (Nat × List Int)) : ∀ x ∈ L.map rc, x.length = 2 := by
 intro x hx
 obtain ⟨y, hy, rfl⟩ := List.mem_map.1 hx
 rfl
theorem one_rc (x : Nat × List Int) : ∀ u ∈ rc x, u.oneCell' = true := by
 intro u hu
 simp only [rc, List.mem_cons, List.not_mem_nil, or_false] at hu
 rcases hu with rfl | rfl <;> rfl
theorem one_rcs (L : List (Nat × List Int)) : ∀ u ∈ rcs L, u.oneCell' = true := fun u hu => by
 obtain ⟨l, hl, hu⟩ := List.mem_flatten.1 hu
 obtain ⟨x, _, rfl⟩ := List.mem_map.1 hl
 exact one_rc x u hu
theorem one_ocs (L : List (Int × Int)) : ∀ u ∈ ocs L, u.oneCell' = true := fun u hu => by
 obtain ⟨l, hl, hu⟩ := List.mem_flatten.1 hu
 obtain ⟨x, _, rfl⟩ := List.mem_map.1 hl
 exact one_oc x u hu
theorem size_str (B : List Int) : (strOfNums B).size = B.length := by simp [strOfNums, ByteArray.size]
def Rw (w : World) (v : Value) (L : List (Nat × List Int)) : Prop := w.ownsRow 0 123 2 v L.length (rcs L)
def Ro (w : World) (v : Value) (L : List (Int × Int)) : Prop := w.ownsRow 0 166 2 v L.length (ocs L)
theorem own_below {w w' : World} {e : TypeId} {sz n : Nat} {v : Value} {xs : List Value} (h : w.ownsRow 0 e sz v n xs) (hb : Below w.heap.size w w') : w'.ownsRow 0 e sz v n xs := own_same h (fun k hk => hb.block k (h.lt k hk).2)
theorem Rw.below {w w' : World} {v : Value} {L : List (Nat × List Int)} (h : Rw w v L) (hb : Below w.heap.size w w') : Rw w' v L := own_below h hb
theorem Ro.below {w w' : World} {v : Value} {L : List (Int × Int)} (h : Ro w v L) (hb : Below w.heap.size w w') : Ro w' v L := own_below h hb
theorem Rw.at_ {w : World} {v : Value} {L : List (Nat × List Int)} (h : Rw w v L) (h0 : 0 < L.length) : ∃ g cap, v = .slice (some ⟨g, 0, none⟩) L.length cap /\ g < w.heap.size /\ ∀ k (hk : k < L.length), w.cell? ⟨g, k * 2, none⟩ = some (.int .i64 (L[k].1 : Int)) /\ w.cell? ⟨g, k * 2 + 1, none⟩ = some (.string (strOfNums L[k].2)) := by
 rcases h.2 with ⟨_, h2⟩ | ⟨g, cap, cur, h1, _, hg, _⟩
 ·omega
 ·refine ⟨g, cap, h1, (Array.getElem?_eq_some_iff.1 hg).1, fun k hk => ?_⟩
  have hh : ∀ j u, (rcs L)[j]? = some u -> w.cell? ((⟨g, 0, none⟩ : Addr).add j) = some u := World.ownsRow.cells h (g := g) (by rw [h1]; rfl)
  have e : ∀ j, j < 2 -> (rcs L)[2 * k + j]? = (rc L[k])[j]? := fun j hj => by
   rw [rcs, flat_at _ 2 (rcs_all L) k (by simpa using hk) j hj]
   simp
  have a0 := hh (2 * k + 0) _ (by rw [e 0 (by omega)]; rfl)
  have a1 := hh (2 * k + 1) _ (by rw [e 1 (by omega)]; rfl)
  rw [Addr.add_lit, Nat.zero_add] at a0 a1
  rw [Nat.mul_comm]
  exact ⟨a0, a1⟩
theorem lastOf_at (L : List (Nat × List Int)) (i k : Nat) (hk : k < L.length) (hp : L[k].1 = i) (h : ∀ q (hq : q < L.length), k < q -> L[q].1 ≠ i) : lastOf L i = some L[k].2 := by
 have e : L.reverse = (L.drop (k + 1)).reverse ++ L[k] :: (L.take k).reverse := by
  have : L = L.take k ++ (L[k] :: L.drop (k + 1)) := by rw [List.getElem_cons_drop, List.take_append_drop]
  conv => lhs; rw [this]
  rw [List.reverse_append, List.reverse_cons, List.append_assoc]
  rfl
 unfold lastOf
 rw [e, List.find?_append]
 have h1 : (L.drop (k + 1)).reverse.find? (fun x => x.1 == i) = none := by
  rw [List.find?_eq_none]
  intro x hx
  obtain ⟨j, hj, rfl⟩ := List.getElem_of_mem (List.mem_reverse.1 hx)
  have hj2 : k + 1 + j < L.length := by simp at hj; omega
  have := h (k + 1 + j) hj2 (by omega)
  simpa using this
 rw [h1]
 simp [hp]
theorem lastOf_no (L : List (Nat × List Int)) (i : Nat) (h : ∀ q (hq : q < L.length), L[q].1 ≠ i) : lastOf L i = none := by
 unfold lastOf
 rw [Option.map_eq_none_iff, List.find?_eq_none]
 intro x hx
 obtain ⟨j, hj, rfl⟩ := List.getElem_of_mem (List.mem_reverse.1 hx)
 simpa using h j hj
def lst (L : List (Nat × List Int)) (i : Nat) : Value := match lastOf L i with
 | some B => .tuple #[.string (strOfNums B), .bool true]
 | none => .tuple #[.string ByteArray.empty, .bool false]
set_option maxRecDepth 20000 in
set_option maxHeartbeats 2000000 in
theorem rlast_any (w : World) (v : Value) (L : List (Nat × List Int)) (i : Nat) (h : Rw w v L) (hl : L.length < 1000000) :
  Calls Tryz.prog 84 #[v, .int .i64 (i : Int)] w fun e w' => e = .returned (lst L i) /\ w = w' := by
 obtain ⟨a, cap, rfl⟩ := own_form2 h
 have H : Box (Rw w (.slice a L.length cap) L) := ⟨h⟩
 have hw1 : IntKind.i64.wrap ((L.length : Int) - 1) = (L.length : Int) - 1 := by rw [IntKind.wrap_i64]; omega
 clear h
 go_enter Tryz.func84, Tryz.ntmps84
 go_wp2
 go_loopw [6] (fun j wr => ∃ k : Nat, k <= L.length /\ j = .int .i64 ((L.length : Int) - 1 - k) /\ Box (wr = w /\ ∀ q (hq : q < L.length), L.length - 1 - k < q ∨ k = L.length -> L[q].1 ≠ i)) (fun j _ => (intOf j + 1).toNat)
 case atStart => exact ⟨0, Nat.zero_le _, by simp, ⟨rfl, fun q hq h => by omega⟩⟩
 case round =>
  obtain ⟨k, hk, rfl, HI⟩ := hrel
  obtain ⟨rfl, hne⟩ := HI.out
  have HNe : Box (∀ q (hq : q < L.length), L.length - 1 - k < q ∨ k = L.length -> L[q].1 ≠ i) := ⟨hne⟩
  clear hne HI
  by_cases hlt : k < L.length
  ·have hq : L.length - 1 - k < L.length := by omega
   obtain ⟨g, c, ev, hg, hc⟩ := H.out.at_ (by omega)
   simp only [Value.slice.injEq, true_and] at ev
   obtain ⟨rfl, rfl⟩ := ev
   obtain ⟨c0, c1⟩ := hc _ hq
   have hw2 : IntKind.i64.wrap (((L.length - 1 - k : Nat) : Int) - 1) = ((L.length - 1 - k : Nat) : Int) - 1 := by rw [IntKind.wrap_i64]; omega
   rw [show ((L.length : Int) - 1 - k) = ((L.length - 1 - k : Nat) : Int) by omega]
   have HA : Box (L[L.length - 1 - k].1 = i -> lastOf L i = some L[L.length - 1 - k].2) := ⟨fun hp => lastOf_at L i _ hq hp (fun q h1 h2 => HNe.out q h1 (.inl h2))⟩
   have hqe : Box (L.length - 1 - k + k + 1 = L.length) := ⟨by omega⟩
   have HNx : Box (L[L.length - 1 - k].1 ≠ i -> ∀ q (hq : q < L.length), L.length - 1 - (k + 1) < q ∨ k + 1 = L.length -> L[q].1 ≠ i) := ⟨fun hp q h1 h2 => by
    by_cases e : q = L.length - 1 - k
    ·subst e; exact hp
    ·exact HNe.out q h1 (.inl (by omega))⟩
   generalize L[L.length - 1 - k] = x at c0 c1 HA HNx
   generalize L.length - 1 - k = q at *
   clear hc HNe
   by_cases hp : x.1 = i
   ·have hpi : ((x.1 : Int) == (i : Int)) = true := by simp [hp]
    have HL : Box (lst L i = .tuple #[.string (strOfNums x.2), .bool true]) := ⟨by rw [lst, HA.out hp]⟩
    clear HA HNx hp
    go_wp2
    go_ret2
    exact ⟨by rw [HL.out]; rfl, rfl⟩
   ·have hpi : ((x.1 : Int) == (i : Int)) = false := by
     have : ¬ ((x.1 : Int) = (i : Int)) := by omega
     simp [this]
    clear HA
    go_wp2
    exact ⟨⟨k + 1, by have := hqe.out; omega, by have := hqe.out; congr 1; omega, ⟨trivial, HNx.out hp⟩⟩, by simp [intOf]⟩
  ·obtain rfl : k = L.length := by omega
   have HL : Box (lst L i = .tuple #[.string ByteArray.empty, .bool false]) := ⟨by rw [lst, lastOf_no L i (fun q hq => HNe.out q hq (.inr rfl))]⟩
   have hneg : decide (0 <= (L.length : Int) - 1 - L.length) = false := by simp; omega
   clear HNe
   go_wp2
   go_ret2
   exact ⟨by rw [HL.out]; rfl, rfl⟩
theorem run_appv {P : Program} (w : World) (t ty e : TypeId) (z : Value) (size bytes : Nat) (ht : P.underlying t = some (.slice e)) (hi : (P.info? e).map (fun i => (i.zero, i.size, i.bytes)) = some (some z, size, bytes)) (hzs : z.cells.size = size) (hsz : 0 < size)
  (v u : Value) (n m : Nat) (xs ys : List Value) (hv : w.ownsRow 0 e size v n xs) (hu : w.ownsRow 0 e size u m ys) (h1 : ∀ c ∈ ys, c.oneCell' = true) (hb : 0 < bytes) (hbytes : (n + m) * bytes <= 140737488355328) :
  ∃ v' w', (Builtin.append_ #[t, t] ty #[v, u]).run P w = .ok v' w' /\ w'.ownsRow 0 e size v' (n + m) (xs ++ ys) /\ w.grownBy w' v.ownBlock /\ ∀ k, v'.ownBlock = some k -> v.ownBlock = some k ∨ w.heap.size <= k := by
 obtain ⟨i, hi1, hz, hsize, hby⟩ := info_parts hi
 have h63 : n + m <= maxLen := by
  have : (n + m) * 1 <= (n + m) * bytes := Nat.mul_le_mul_left _ hb
  unfold maxLen
  omega
 rcases hu.2 with ⟨rfl, rfl⟩ | ⟨g, cap, cur, rfl, _, hg, _⟩
 ·have hy : ys = [] := List.eq_nil_of_length_eq_zero (by simpa using hu.1)
  subst hy
  refine ⟨v, w, ?_, by simpa using hv, ⟨rfl, rfl, rfl, Nat.le_refl _, fun _ _ _ => rfl⟩, fun k hk => .inl hk⟩
  rcases hv.2 with ⟨rfl, rfl⟩ | ⟨g, cap', cur, rfl, _, _, hle, _⟩
  ·simp [Builtin.append_, run_underlying ht, sizeOf, typeInfo, hi1, Builtin.lenOf, Builtin.firstCells]
  ·simp [Builtin.append_, run_underlying ht, sizeOf, typeInfo, hi1, Builtin.lenOf, Builtin.firstCells, hle, storeCells]
 ·exact run_app w t ty e i z size bytes ht hi1 hz hsize hby hzs hsz v n xs hv ⟨g, 0, none⟩ m cap ys hu.1 (hu.cells (g := g) rfl) h1 h63 hbytes
theorem wpList_appv {P : Program} {ops : Array Oper} {rest : List Oper} {o : Oper} {act : Act} {w : World} {Q : Exit -> Act -> World -> Prop} (hgd : o.guard = none) (s x : Operand) (t : TypeId) (ho : o.op = .call { callee := .builtin .append, args := #[s, x], argTypes := #[t, t] })
  (e : TypeId) (size bytes : Nat) (z : Value) (ht : P.underlying t = some (.slice e)) (hi : (P.info? e).map (fun i => (i.zero, i.size, i.bytes)) = some (some z, size, bytes)) (hzs : z.cells.size = size) (hsz : 0 < size) (v u : Value) (n m : Nat) (xs ys : List Value) (hs : act.eval s = v) (hx : act.eval x = u) (hv : w.ownsRow 0 e size v n xs) (hu : w.ownsRow 0 e size u m ys)
  (h1 : ∀ c ∈ ys, c.oneCell' = true) (hb : 0 < bytes) (hbytes : (n + m) * bytes <= 140737488355328)
  (h : ∀ v' w', w'.ownsRow 0 e size v' (n + m) (xs ++ ys) -> w.grownBy w' v.ownBlock -> (∀ k, v'.ownBlock = some k -> v.ownBlock = some k ∨ w.heap.size <= k) -> wpList P ops Q rest (act.put o.dst v') w') : wpList P ops Q (o :: rest) act w := by
 refine wpList_plain hgd fun _ hK => ?_
 obtain ⟨v', w', hr, h2, h3, h4⟩ := run_appv (P := P) w t o.type e z size bytes ht hi hzs hsz v u n m xs ys hv hu h1 hb hbytes
 unfold Oper.wp execOp
 simp only [ho, resolve, invoke, builtin, Sem.run_bind, Sem.run_pure, Result.andThen_ok, List.map_toArray, List.map_cons, List.map_nil, hs, hx, hr]
 exact hK _ _ (h v' w' h2 h3 h4)
theorem infoW : (Tryz.prog.info? 123).map (fun i => (i.zero, i.size, i.bytes)) = some (some (.agg (rc (0, [])).toArray), 2, 24) := by kernel_rfl
theorem infoO : (Tryz.prog.info? 166).map (fun i => (i.zero, i.size, i.bytes)) = some (some (.agg (oc (0, 0)).toArray), 2, 16) := by kernel_rfl
end Go.Proofs.YtjdjbjedfbmgpaaGreatDoor.Disk
namespace Go.Proofs.YtjdjbjedfbmgpaaGreatDoor.Disk.Plain
end Go.Proofs.YtjdjbjedfbmgpaaGreatDoor.Disk.Plain
namespace Go.Proofs.YtjdjbjedfbmgpaaGreatDoor.Disk
open Go.RowKit Go.Proofs.YtjdjbjedfbmgpaaGreatDoor.Plain Go.Proofs.YtjdjbjedfbmgpaaGreatDoor.Disk.Plain
set_option maxRecDepth 20000 in
set_option maxHeartbeats 2000000 in
theorem rmore_any (w : World) (v : Value) (L : List (Nat × List Int)) (x : Nat × List Int) (h : Rw w v L) (hl : L.length < 1000000) :
  Calls Tryz.prog 51 #[v, .agg (rc x).toArray] w fun e w' => ∃ v', e = .returned v' /\ Rw w' v' (L ++ [x]) /\ Below w.heap.size w w' /\ ∀ k, v'.ownBlock = some k -> w.heap.size <= k := by
 obtain ⟨a, cap, rfl⟩ := own_form2 h
 have hb0 : Below w.heap.size w (w.alloc (.cells (rc x).toArray 123)) := (Below.refl _ _).alloc (Nat.le_refl _) _
 have H : Box (Rw (w.alloc (.cells (rc x).toArray 123)) (.slice a L.length cap) L /\ Below w.heap.size w (w.alloc (.cells (rc x).toArray 123)) /\ (w.alloc (.cells (rc x).toArray 123)).heap[w.heap.size]? = some (.cells (rc x).toArray 123 (0, 0)) /\ w.heap.size < (w.alloc (.cells (rc x).toArray 123)).heap.size) := ⟨h.below hb0, hb0, al_at rfl, by simp⟩
 have HB1 : Box ((0 + L.length) * 24 <= 140737488355328 /\ (L.length + 1) * 24 <= 140737488355328) := ⟨by omega, by omega⟩
 obtain ⟨S, HS⟩ : ∃ S, Box (w.heap.size = S) := ⟨_, ⟨rfl⟩⟩
 clear h hb0 hl
 go_enter Tryz.func51, Tryz.ntmps51
 go_upto_region 1 with fail
 rw [HS.out] at H ⊢
 generalize w.alloc (.cells (rc x).toArray 123) = w1 at H ⊢
 go_upto_region 3 with (at_builtin; refine wpList_appv rfl _ _ 33 rfl 123 2 24 (.agg (rc (0, [])).toArray) Tryz.underlying33 infoW rfl (by decide) (.slice none 0 0) (.slice a L.length cap) 0 L.length [] (rcs L) rfl rfl (World.ownsRow_nil _ _ _ _) H.out.1 (one_rcs L) (by decide) HB1.out.1 ?_; intro v2 w2 hown hgr hblk; rw [Nat.zero_add, List.nil_append] at hown; have H2 : Box (w2.ownsRow 0 123 2 v2 L.length (rcs L) /\ Below w1.heap.size w1 w2 /\ ∀ k, v2.ownBlock = some k -> w1.heap.size <= k) := ⟨hown, (Below.refl _ _).grown hgr (Nat.le_refl _) (fun k hk => by simp [Value.ownBlock] at hk), fun k hk => (hblk k hk).elim (fun h => by simp [Value.ownBlock] at h) id⟩; obtain ⟨a2, c2, rfl⟩ := own_form2 hown; clear hown hgr hblk)
 have hr2 : w2.heap[S]? = some (.cells (rc x).toArray 123 (0, 0)) := (H2.out.2.1.block S H.out.2.2.2).trans H.out.2.2.1
 have c0 : w2.cell? ⟨S, 0, none⟩ = some (.int .i64 (x.1 : Int)) := by rw [cell_of_row _ _ _ _ _ _ hr2]; rfl
 have c1 : w2.cell? ⟨S, 1, none⟩ = some (.string (strOfNums x.2)) := by rw [cell_of_row _ _ _ _ _ _ hr2]; rfl
 have H3 : Box (Below S w w2 /\ S < w2.heap.size /\ S < w1.heap.size) := ⟨H.out.2.1.trans (H2.out.2.1.mono (by have := H.out.2.2.2; omega)), Nat.lt_of_lt_of_le H.out.2.2.2 H2.out.2.1.size, H.out.2.2.2⟩
 clear hr2
 go_wp2_with (at_builtin; refine wpList_app2 rfl _ _ 33 rfl 123 2 24 (.agg (rc (0, [])).toArray) Tryz.underlying33 infoW rfl (by decide) (.slice a2 L.length c2) L.length (rcs L) rfl (H2.out.1.alloc _) ⟨w2.heap.size, 0, none⟩ 1 1 (rc x) rfl rfl (news_new w2 (rc x) _) (one_rc _) HB1.out.2 (by decide) ?_; intro v3 w3 hown hgr hblk; have H4 : Box (w3.ownsRow 0 123 2 v3 (L.length + 1) (rcs L ++ rc x) /\ Below S w w3 /\ ∀ k, v3.ownBlock = some k -> S <= k) := ⟨hown, (H3.out.1.alloc (Nat.le_of_lt H3.out.2.1) _).grown hgr (by simp; exact Nat.le_of_lt (Nat.lt_succ_of_lt H3.out.2.1)) (fun k hk => by have := H2.out.2.2 k hk; have := H3.out.2.2; omega), fun k hk => (hblk k hk).elim (fun h => by have := H2.out.2.2 k h; have := H3.out.2.2; omega) (fun h => by have h9 := H3.out.2.1; simp at h; omega)⟩; obtain ⟨a3, c3, rfl⟩ := own_form2 hown; clear hown hgr hblk)
 go_ret
 refine ⟨_, rfl, ?_, HS.out ▸ H4.out.2.1, HS.out ▸ H4.out.2.2⟩
 have h5 := H4.out.1
 unfold Rw
 rw [rcs_snoc, List.length_append]
 exact h5
end Go.Proofs.YtjdjbjedfbmgpaaGreatDoor.Disk
