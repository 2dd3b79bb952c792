/-
 What the reference's block answers, for every state and every 64 bytes.
-/
import Derived.BigFrame
import Derived.Test.YthfobaeafapbnaaDoorQ05
set_option linter.unusedVariables false
set_option maxRecDepth 100000
namespace Go.Proofs.YthfobaeafapbnaaDoor.Dig
open Go.RowKit Go.Proofs.YthfobaeafapbnaaDoor.Dig.Plain
theorem mz_comm (X H : List Int) (hX : X.length = 8) (hH : H.length = 8) : mz X H 8 = mz H X 8 := by
 match X, hX, H, hH with
 | [a, b, c, d, e, f, g, h], _, [a', b', c', d', e', f', g', h'], _ => simp [mz, Int.add_comm]
theorem rright_j (x k : Int) (w : World) (h : W32 x) (hn : 1 <= k) (hn' : k <= 31) :
  Calls Tryd.prog 85 #[.int .u32 x, .int .u64 k] w fun e w' => e = .returned (.int .u32 (rotr x k)) /\ w = w' :=
 (rright_k x k w h hn hn').mono fun _ _ ⟨he, hw⟩ => ⟨he, hw.symm⟩
def sh (L : List Int) : Nat -> List Int
 | 0 => L
 | j + 1 => (sh L j).set (7 - j) (L.getD (6 - j) 0)
theorem length_sh (L : List Int) (j : Nat) : (sh L j).length = L.length := by
 induction j with
 | zero => rfl
 | succ j ih => simp [sh, ih]
theorem sh_far (L : List Int) (j i : Nat) (h : i + j <= 7) : (sh L j).getD i 0 = L.getD i 0 := by
 induction j with
 | zero => rfl
 | succ j ih =>
  rw [sh]
  simp only [List.getD]
  rw [List.getElem?_set_ne (by omega)]
  exact ih (by omega)
theorem lay1 {w wr w1 : World} {S : Nat} {x y z : Obj} (h : wr.heap[S]? = some x /\ wr.heap[S + 1]? = some y /\ wr.heap[S + 2]? = some z /\ Below S w wr) (hb : Below wr.heap.size wr w1) :
  Box (w1.heap[S]? = some x /\ w1.heap[S + 1]? = some y /\ w1.heap[S + 2]? = some z /\ Below S w w1 /\ S + 3 <= w1.heap.size) := by
 obtain ⟨h1, h2, h3, h4⟩ := h
 have l3 := (Array.getElem?_eq_some_iff.1 h3).1
 exact ⟨(hb.block _ (by omega)).trans h1, (hb.block _ (by omega)).trans h2, (hb.block _ l3).trans h3, h4.trans (hb.mono (by omega)), by have := hb.size; omega⟩
theorem lay2 {w w1 x1 : World} {S : Nat} {x y z o q : Obj} (h : w1.heap[S]? = some x /\ w1.heap[S + 1]? = some y /\ w1.heap[S + 2]? = some z /\ Below S w w1 /\ S + 3 <= w1.heap.size)
  (k : x1.heap[w1.heap.size]? = some q /\ Below S w x1 /\ ∀ j, j ≠ w1.heap.size -> x1.heap[j]? = (w1.alloc o).heap[j]?) :
  Box (x1.heap[S]? = some x /\ x1.heap[S + 1]? = some y /\ x1.heap[S + 2]? = some z /\ x1.heap[w1.heap.size]? = some q /\ Below S w x1 /\ S + 3 <= w1.heap.size /\ w1.heap.size < x1.heap.size) := by
 obtain ⟨h1, h2, h3, h4, h5⟩ := h
 obtain ⟨k1, k2, k3⟩ := k
 exact ⟨(k3 _ (by omega)).trans (al_old h1), (k3 _ (by omega)).trans (al_old h2), (k3 _ (by omega)).trans (al_old h3), k1, k2, h5, (Array.getElem?_eq_some_iff.1 k1).1⟩
theorem lay3 {w x1 x2 : World} {S K : Nat} {x y z o q r : Obj} (h : x1.heap[S]? = some x /\ x1.heap[S + 1]? = some y /\ x1.heap[S + 2]? = some z /\ x1.heap[K]? = some q /\ Below S w x1 /\ S + 3 <= K /\ K < x1.heap.size)
  (k : x2.heap[x1.heap.size]? = some r /\ Below S w x2 /\ ∀ j, j ≠ x1.heap.size -> x2.heap[j]? = (x1.alloc o).heap[j]?) :
  Box (x2.heap[S]? = some x /\ x2.heap[S + 1]? = some y /\ x2.heap[S + 2]? = some z /\ x2.heap[K]? = some q /\ x2.heap[x1.heap.size]? = some r /\ Below S w x2 /\ S + 3 <= K /\ K < x1.heap.size) := by
 obtain ⟨h1, h2, h3, h4, h5, h6, h7⟩ := h
 obtain ⟨k1, k2, k3⟩ := k
 exact ⟨(k3 _ (by omega)).trans (al_old h1), (k3 _ (by omega)).trans (al_old h2), (k3 _ (by omega)).trans (al_old h3), (k3 _ (by omega)).trans (al_old h4), k1, k2, h6, h7⟩
theorem wpList_lay53 {ops : Array Oper} {rest : List Oper} {o : Oper} {a : Act} {w : World} {Q : Exit -> Act -> World -> Prop} (X : List Int) (hX : (u32s X).size = 64) (hgd : o.guard = none) (x y : Operand) (ho : o.op = .store 163 x y)
  (g : Nat) (old : Array Value) (hx : a.eval x = .pointer (some ⟨g, 0, none⟩)) (hy : a.eval y = .agg (u32s X)) (hg : w.heap[g]? = some (.cells old 163 (0, 0))) (hold : old.size = 64) (B : Nat) (w0 : World) (hB : Below B w0 w) (hBg : B <= g)
  (h : ∀ w', Hid (w'.heap[g]? = some (.cells (u32s X) 163 (0, 0)) /\ Below B w0 w' /\ ∀ k, k ≠ g -> w'.heap[k]? = w.heap[k]?) -> wpList Tryd.prog ops Q rest (a.put o.dst undef) w') : wpList Tryd.prog ops Q (o :: rest) a w := by
 refine wpList_store_row hgd 163 x y ho g (u32s X) hx hy 163 old hg (by rw [hX]; kernel_rfl) (by rw [hX]; exact hold) (all_u32s X) (h _ ⟨setRow_heap _ _ _ _ _ _ hg, below_setRow hB hBg _, fun k hk => setRow_other _ _ _ _ hk⟩)
theorem wpList_lay43 {ops : Array Oper} {rest : List Oper} {o : Oper} {a : Act} {w : World} {Q : Exit -> Act -> World -> Prop} (X : List Int) (hX : (u32s X).size = 8) (hgd : o.guard = none) (x y : Operand) (ho : o.op = .store 141 x y)
  (g : Nat) (old : Array Value) (hx : a.eval x = .pointer (some ⟨g, 0, none⟩)) (hy : a.eval y = .agg (u32s X)) (hg : w.heap[g]? = some (.cells old 141 (0, 0))) (hold : old.size = 8) (B : Nat) (w0 : World) (hB : Below B w0 w) (hBg : B <= g)
  (h : ∀ w', Hid (w'.heap[g]? = some (.cells (u32s X) 141 (0, 0)) /\ Below B w0 w' /\ ∀ k, k ≠ g -> w'.heap[k]? = w.heap[k]?) -> wpList Tryd.prog ops Q rest (a.put o.dst undef) w') : wpList Tryd.prog ops Q (o :: rest) a w := by
 refine wpList_store_row hgd 141 x y ho g (u32s X) hx hy 141 old hg (by rw [hX]; kernel_rfl) (by rw [hX]; exact hold) (all_u32s X) (h _ ⟨setRow_heap _ _ _ _ _ _ hg, below_setRow hB hBg _, fun k hk => setRow_other _ _ _ _ hk⟩)
def Blk (w wr : World) (S K V : Nat) (H W L : List Int) : Prop :=
 wr.heap[S]? = some (.cells (u32s H) 141 (0, 0)) /\ wr.heap[S + 1]? = some (.cells (fil [] 8) 141 (0, 0)) /\ wr.heap[S + 2]? = some (.cells (u32s W) 163 (0, 0)) /\ wr.heap[K]? = some (.cells (u32s kk) 163 (0, 0)) /\ wr.heap[V]? = some (.cells (u32s L) 141 (0, 0)) /\ Below S w wr
theorem Blk.set {w wr : World} {S K V : Nat} {H W L : List Int} (h : Blk w wr S K V H W L) (hSK : S + 3 <= K) (hKV : K < V) (i : Nat) (x : Int) : Blk w (wr.setCell ⟨V, i, none⟩ (.int .u32 x)) S K V H W (L.set i x) := by
 have o : ∀ j, j ≠ V -> (wr.setCell ⟨V, i, none⟩ (.int .u32 x)).heap[j]? = wr.heap[j]? := fun j hj => heap_setCell_other wr ⟨V, i, none⟩ j _ (fun e => hj e)
 obtain ⟨h1, h2, h3, h4, h5, h6⟩ := h
 refine ⟨(o _ (by omega)).trans h1, (o _ (by omega)).trans h2, (o _ (by omega)).trans h3, (o _ (by omega)).trans h4, ?_, h6.os, h6.tape, h6.output, by simpa using h6.size, fun j hj => (o j (by omega)).trans (h6.block j hj)⟩
 rw [heap_setCell_same wr V i _ 141 _ h5, u32s_set]
theorem Blk.drewN {w wr : World} {S K V : Nat} {H W L : List Int} (h : Blk w wr S K V H W L) (n : Nat) : Blk w (wr.drewN n) S K V H W L :=
 ⟨h.1, h.2.1, h.2.2.1, h.2.2.2.1, h.2.2.2.2.1, h.2.2.2.2.2.os, h.2.2.2.2.2.tape, h.2.2.2.2.2.output, h.2.2.2.2.2.size, h.2.2.2.2.2.block⟩
theorem Blk.drew {w wr : World} {S K V : Nat} {H W L : List Int} (h : Blk w wr S K V H W L) : Blk w wr.drew S K V H W L :=
 ⟨h.1, h.2.1, h.2.2.1, h.2.2.2.1, h.2.2.2.2.1, h.2.2.2.2.2.os, h.2.2.2.2.2.tape, h.2.2.2.2.2.output, h.2.2.2.2.2.size, h.2.2.2.2.2.block⟩
theorem wrd_list {s : St} (h : s.OK) : Wrd s.list := by
 intro i
 obtain ⟨h0, h1, h2, h3, h4, h5, h6, h7⟩ := h
 match i with
 | 0 => exact h0
 | 1 => exact h1
 | 2 => exact h2
 | 3 => exact h3
 | 4 => exact h4
 | 5 => exact h5
 | 6 => exact h6
 | 7 => exact h7
 | i + 8 => simp [St.list, W32]
theorem list_of (H : List Int) (h : H.length = 8) : (St.of H).list = H := by
 match H, h with
 | [a, b, c, d, e, f, g, h], _ => rfl
set_option maxRecDepth 20000 in
set_option maxHeartbeats 2000000 in
theorem block_any (H M : List Int) (a : Option Addr) (len cap p : Nat) (w : World) (hH : H.length = 8) (hHw : Wrd H) (hBy : Bytes w a len M) (hp : p + 64 <= len) (hl : len <= 4294967296) :
  Calls Tryd.prog 79 #[.agg (u32s H), .slice a len cap, .int .i64 p] w fun e w' => e = .returned (.agg (u32s (mix H (sched M p)))) /\ Below w.heap.size w w' := by
 obtain ⟨S, HS⟩ : ∃ S, Hid (w.heap.size = S) := ⟨_, rfl⟩
 have hML := hBy.1
 have hMb := hBy.2.1
 obtain ⟨b, off, rfl, hlt, hc⟩ := hBy.2.2 (by omega)
 have hbS : b < S := by rw [<- HS.out]; exact hlt
 have HC : Hid (∀ wr, Below S w wr -> ∀ i, i < len -> wr.cell? ⟨b, off + i, none⟩ = some (.int .u8 (M.getD i 0))) := fun wr hb i hi => (hb.cell (by simpa using hbS)).trans (hc i hi)
 clear hc hlt hBy
 have HZ : Hid (fil [] 64 = #[.int .u32 0, .int .u32 0, .int .u32 0, .int .u32 0, .int .u32 0, .int .u32 0, .int .u32 0, .int .u32 0, .int .u32 0, .int .u32 0, .int .u32 0, .int .u32 0, .int .u32 0, .int .u32 0, .int .u32 0, .int .u32 0, .int .u32 0, .int .u32 0, .int .u32 0, .int .u32 0, .int .u32 0, .int .u32 0, .int .u32 0, .int .u32 0, .int .u32 0, .int .u32 0, .int .u32 0, .int .u32 0, .int .u32 0, .int .u32 0, .int .u32 0, .int .u32 0, .int .u32 0, .int .u32 0, .int .u32 0, .int .u32 0, .int .u32 0, .int .u32 0, .int .u32 0, .int .u32 0, .int .u32 0, .int .u32 0, .int .u32 0, .int .u32 0, .int .u32 0, .int .u32 0, .int .u32 0, .int .u32 0, .int .u32 0, .int .u32 0, .int .u32 0, .int .u32 0, .int .u32 0, .int .u32 0, .int .u32 0, .int .u32 0, .int .u32 0, .int .u32 0, .int .u32 0, .int .u32 0, .int .u32 0, .int .u32 0, .int .u32 0, .int .u32 0]) := rfl
 have HZ8 : Hid (fil [] 8 = #[.int .u32 0, .int .u32 0, .int .u32 0, .int .u32 0, .int .u32 0, .int .u32 0, .int .u32 0, .int .u32 0]) := rfl
 go_enter Tryd.func79, Tryd.ntmps79
 go_wp2
 rw [HS.out]
 go_loopw [8] (fun i wr => ∃ k : Nat, k <= 16 /\ i = .int .i64 k /\ Hid (wr.heap[S]? = some (.cells (u32s H) 141 (0, 0)) /\ wr.heap[S + 1]? = some (.cells (fil [] 8) 141 (0, 0))) /\ wr.heap[S + 2]? = some (.cells (fil (wl0 M p k) 64) 163 (0, 0)) /\ Below S w wr) (fun i _ => 16 - (intOf i).toNat)
 case atStart =>
  refine ⟨0, by omega, rfl, ⟨?_, ?_⟩, ?_, ?_⟩
  ·exact al_old (al_old (al_at HS.out))
  ·rw [HZ8.out]; exact al_old (al_at (by simp [HS.out]))
  ·rw [wl0, HZ.out]; exact al_at (by simp [HS.out])
  ·rw [<- HS.out]; exact (((Below.refl _ _).alloc (Nat.le_refl _) _).alloc (by simp) _).alloc (by simp; omega) _
 case round =>
  clear HZ HZ8
  obtain ⟨k, hk, rfl, HR, hgW, hbel⟩ := hrel
  by_cases hlt : k < 16
  ·obtain ⟨m, HM⟩ : ∃ m, Hid (p + 4 * k = m) := ⟨_, rfl⟩
   have hm : p + 4 * k = m := HM.out
   have e1 : (p : Int) + 4 * (k : Int) = (m : Int) := by omega
   have c1 := HC.out wr hbel m (by omega)
   have c2 := HC.out wr hbel (m + 1) (by omega)
   have c3 := HC.out wr hbel (m + 2) (by omega)
   have c4 := HC.out wr hbel (m + 3) (by omega)
   have b1 := hMb m
   have b2 := hMb (m + 1)
   have b3 := hMb (m + 2)
   have b4 := hMb (m + 3)
   have l1 : m + 3 < len := by omega
   have HW : Hid (word M p k = M.getD m 0 * 16777216 + M.getD (m + 1) 0 * 65536 + M.getD (m + 2) 0 * 256 + M.getD (m + 3) 0) := by
    unfold word; rw [hm]; rfl
   generalize M.getD m 0 = z1 at c1 b1 HW
   generalize M.getD (m + 1) 0 = z2 at c2 b2 HW
   generalize M.getD (m + 2) 0 = z3 at c3 b3 HW
   generalize M.getD (m + 3) 0 = z4 at c4 b4 HW
   have hf : wr.frozen? ⟨S + 2, k, none⟩ = false := frozen_of_row wr _ _ _ 163 hgW
   obtain ⟨v, hcw⟩ : ∃ v, wr.cell? ⟨S + 2, k, none⟩ = some v := by
    obtain ⟨v, hv⟩ := fil_some (wl0 M p k) 64 k (by omega) (by rw [length_wl0]; omega)
    exact ⟨v, by rw [cell_of_row _ _ _ _ _ _ hgW]; exact hv⟩
   have hst := fil_step w wr (S + 2) 64 S (wl0 M p k) (word M p k) (by rw [length_wl0]; omega) (by omega) hgW hbel
   rw [length_wl0] at hst
   have HST : Hid _ := hst
   clear hst hm
   go_wp2
   go_region
   go_wp2
   go_roundw
   case rel =>
    rw [<- HW.out]
    obtain ⟨s1, s2, s3⟩ := HST.out
    refine ⟨k + 1, by omega, by go_num, ⟨?_, ?_⟩, ?_, ?_⟩
    ·exact (s3 S (by omega)).trans HR.out.1
    ·exact (s3 (S + 1) (by omega)).trans HR.out.2
    ·exact s1
    ·exact s2.drew
   case measure => simp [intOf]; omega
  ·obtain rfl : k = 16 := by omega
   go_wp2
   go_loopw [9] (fun i wr => ∃ t j : Nat, Hid (t = 16 + j /\ j <= 48) /\ i = .int .i64 t /\ Hid (wr.heap[S]? = some (.cells (u32s H) 141 (0, 0)) /\ wr.heap[S + 1]? = some (.cells (fil [] 8) 141 (0, 0))) /\ wr.heap[S + 2]? = some (.cells (fil (wlx M p j) 64) 163 (0, 0)) /\ Below S w wr) (fun i _ => 64 - (intOf i).toNat)
   case atStart => exact ⟨16, 0, ⟨rfl, by omega⟩, rfl, HR, hgW, hbel⟩
   case round =>
    clear HR hgW hbel hlt hk
    obtain ⟨t, j, HT, rfl, HR, hgW, hbel⟩ := hrel
    by_cases hlt : t < 64
    ·obtain ⟨ht, hj⟩ := HT.out
     have hln := length_wlx M p j
     have hwd := wrd_wlx M p j hMb
     obtain ⟨z1, Z1⟩ : ∃ z, Hid ((wlx M p j).getD j 0 = z) := ⟨_, rfl⟩
     obtain ⟨z2, Z2⟩ : ∃ z, Hid ((wlx M p j).getD (j + 1) 0 = z) := ⟨_, rfl⟩
     obtain ⟨z3, Z3⟩ : ∃ z, Hid ((wlx M p j).getD (j + 9) 0 = z) := ⟨_, rfl⟩
     obtain ⟨z4, Z4⟩ : ∃ z, Hid ((wlx M p j).getD (j + 14) 0 = z) := ⟨_, rfl⟩
     have b1 : W32 z1 := by rw [<- Z1.out]; exact hwd j
     have b2 : W32 z2 := by rw [<- Z2.out]; exact hwd (j + 1)
     have b3 : W32 z3 := by rw [<- Z3.out]; exact hwd (j + 9)
     have b4 : W32 z4 := by rw [<- Z4.out]; exact hwd (j + 14)
     have C1 : Hid (∀ x : World, x.heap[S + 2]? = some (.cells (fil (wlx M p j) 64) 163 (0, 0)) -> x.cell? ⟨S + 2, j, none⟩ = some (.int .u32 z1)) := fun x hx => by rw [<- Z1.out]; exact fil_cell x _ _ 64 _ _ _ hx (by omega)
     have C2 : Hid (∀ x : World, x.heap[S + 2]? = some (.cells (fil (wlx M p j) 64) 163 (0, 0)) -> x.cell? ⟨S + 2, j + 1, none⟩ = some (.int .u32 z2)) := fun x hx => by rw [<- Z2.out]; exact fil_cell x _ _ 64 _ _ _ hx (by omega)
     have C3 : Hid (∀ x : World, x.heap[S + 2]? = some (.cells (fil (wlx M p j) 64) 163 (0, 0)) -> x.cell? ⟨S + 2, j + 9, none⟩ = some (.int .u32 z3)) := fun x hx => by rw [<- Z3.out]; exact fil_cell x _ _ 64 _ _ _ hx (by omega)
     have C4 : Hid (∀ x : World, x.heap[S + 2]? = some (.cells (fil (wlx M p j) 64) 163 (0, 0)) -> x.cell? ⟨S + 2, j + 14, none⟩ = some (.int .u32 z4)) := fun x hx => by rw [<- Z4.out]; exact fil_cell x _ _ 64 _ _ _ hx (by omega)
     have HW : Hid (nextW (wlx M p j) j = (z1 + sig0 z2 + z3 + sig1 z4) % 4294967296) := by rw [<- Z1.out, <- Z2.out, <- Z3.out, <- Z4.out]; rfl
     have e16 : (t : Int) - 16 = (j : Int) := by omega
     have e15 : (t : Int) - 15 = ((j + 1 : Nat) : Int) := by omega
     have e7 : (t : Int) - 7 = ((j + 9 : Nat) : Int) := by omega
     have e2 : (t : Int) - 2 = ((j + 14 : Nat) : Int) := by omega
     have i16 : j < 64 := by omega
     have i15 : j + 1 < 64 := by omega
     have i7 : j + 9 < 64 := by omega
     have i2 : j + 14 < 64 := by omega
     have HV : Hid (∀ x : World, x.heap[S + 2]? = some (.cells (fil (wlx M p j) 64) 163 (0, 0)) -> ∃ v, x.cell? ⟨S + 2, t, none⟩ = some v) := by
      intro x hx
      obtain ⟨v, hv⟩ := fil_some (wlx M p j) 64 t (by omega) (by omega)
      exact ⟨v, by rw [cell_of_row _ _ _ _ _ _ hx]; exact hv⟩
     have HST : Hid (∀ x : World, x.heap[S + 2]? = some (.cells (fil (wlx M p j) 64) 163 (0, 0)) -> Below S w x -> (x.setCell ⟨S + 2, t, none⟩ (.int .u32 (nextW (wlx M p j) j))).heap[S + 2]? = some (.cells (fil (wlx M p (j + 1)) 64) 163 (0, 0)) /\ Below S w (x.setCell ⟨S + 2, t, none⟩ (.int .u32 (nextW (wlx M p j) j))) /\ ∀ q, q ≠ S + 2 -> (x.setCell ⟨S + 2, t, none⟩ (.int .u32 (nextW (wlx M p j) j))).heap[q]? = x.heap[q]?) := by
      intro x hx hbx
      have := fil_step w x (S + 2) 64 S (wlx M p j) (nextW (wlx M p j) j) (by omega) (by omega) hx hbx
      rwa [hln, <- ht] at this
     generalize j + 1 = m1 at C2 e15 i15
     generalize j + 9 = m9 at C3 e7 i7
     generalize j + 14 = m14 at C4 e2 i2
     obtain ⟨p1, q1⟩ := b1
     obtain ⟨p3, q3⟩ := b3
     clear hwd hln hj ht Z1 Z2 Z3 Z4
     have c2 := C2.out wr hgW
     go_wp2
     go_quiet ((go_at_call 85; exact Calls.quiet_of_same (rright_k _ _ _ (by assumption) (by decide) (by decide))))
     have R2 : Hid ((wr.drewN nq).heap[S]? = some (.cells (u32s H) 141 (0, 0)) /\ (wr.drewN nq).heap[S + 1]? = some (.cells (fil [] 8) 141 (0, 0))) := HR
     have W2 : (wr.drewN nq).heap[S + 2]? = _ := hgW
     have B2 : Below S w (wr.drewN nq) := ⟨hbel.os, hbel.tape, hbel.output, hbel.size, hbel.block⟩
     clear HR hgW hbel c2 C2
     generalize wr.drewN nq = x2 at R2 W2 B2 ⊢
     have c4 := C4.out x2 W2
     clear nq wr
     go_wp2
     go_quiet ((go_at_call 85; exact Calls.quiet_of_same (rright_k _ _ _ (by assumption) (by decide) (by decide))))
     have R3 : Hid ((x2.drewN nq).heap[S]? = some (.cells (u32s H) 141 (0, 0)) /\ (x2.drewN nq).heap[S + 1]? = some (.cells (fil [] 8) 141 (0, 0))) := R2
     have W3 : (x2.drewN nq).heap[S + 2]? = _ := W2
     have B3 : Below S w (x2.drewN nq) := ⟨B2.os, B2.tape, B2.output, B2.size, B2.block⟩
     clear R2 W2 B2 c4 C4
     generalize x2.drewN nq = x3 at R3 W3 B3 ⊢
     have c1 := C1.out x3 W3
     have c3 := C3.out x3 W3
     clear nq x2
     have hf : x3.frozen? ⟨S + 2, t, none⟩ = false := frozen_of_row x3 _ _ _ 163 W3
     obtain ⟨v, hcw⟩ := HV.out x3 W3
     have HS3 : Hid _ := HST.out x3 W3 B3
     go_wp2
     go_region
     go_wp2
     go_roundw
     case rel =>
      obtain ⟨s1, s2, s3⟩ := HS3.out
      have HE : (z1 + bits BinOp.xor IntKind.u32 (bits BinOp.xor IntKind.u32 (rotr z2 7) (rotr z2 18)) (z2 / 8) + z3 + bits BinOp.xor IntKind.u32 (bits BinOp.xor IntKind.u32 (rotr z4 17) (rotr z4 19)) (z4 / 1024)) % 4294967296 = nextW (wlx M p j) j := HW.out.symm
      rw [HE]
      obtain ⟨ht, hj⟩ := HT.out
      refine ⟨t + 1, j + 1, ⟨by omega, by omega⟩, by go_num, ⟨?_, ?_⟩, ?_, ?_⟩
      ·exact (s3 S (by omega)).trans R3.out.1
      ·exact (s3 (S + 1) (by omega)).trans R3.out.2
      ·exact s1
      ·exact s2.drew
     case measure => simp [intOf]; omega
    ·obtain ⟨ht, hj⟩ := HT.out
     obtain rfl : t = 64 := by omega
     obtain rfl : j = 48 := by omega
     have hln := length_sched M p
     have HWD : Hid (Wrd (sched M p)) := wrd_sched M p hMb
     have hgW' : wr.heap[S + 2]? = some (.cells (u32s (sched M p)) 163 (0, 0)) := by rw [<- fil_full (sched M p) 64 hln]; exact hgW
     obtain ⟨W, HX⟩ : ∃ X, Box (sched M p = X) := ⟨_, ⟨rfl⟩⟩
     rw [HX.out] at hgW' hln HWD
     have HA : Box (wr.heap[S]? = some (.cells (u32s H) 141 (0, 0)) /\ wr.heap[S + 1]? = some (.cells (fil [] 8) 141 (0, 0)) /\ wr.heap[S + 2]? = some (.cells (u32s W) 163 (0, 0)) /\ Below S w wr) := ⟨HR.out.1, HR.out.2, hgW', hbel⟩
     clear hgW ht hj HT hgW' HR hbel hlt HC hMb hp
     have hHs : (u32s H).size = 8 := by rw [size_u32s, hH]
     go_wp2_with (first
      | (go_at_call 86; refine (rounds_any _).mono ?_; rintro e w1 ⟨rfl, hb1⟩; have H1 := lay1 HA.out hb1; clear hb1)
      | (refine wpList_lay53 kk rfl rfl (.tmp 12) (.tmp 124) rfl w1.heap.size _ rfl rfl (al_at rfl) rfl S w (H1.out.2.2.2.1.alloc (by have := H1.out.2.2.2.2; omega) _) (by have := H1.out.2.2.2.2; omega) ?_; intro x1 HX1; have H2 := lay2 H1.out HX1.out; clear HX1)
      | (refine wpList_load_row rfl 141 (.tmp 3) rfl S rfl 141 (u32s H) (0, 0) _ H2.out.1 Tryd.underlying141 rfl (by rw [hHs]; kernel_rfl) ?_)
      | (refine wpList_lay43 H hHs rfl (.tmp 13) (.tmp 125) rfl x1.heap.size _ rfl rfl (al_at rfl) rfl S w (H2.out.2.2.2.2.1.alloc (by have := H2.out.2.2.2.2.2; omega) _) (by have := H2.out.2.2.2.2.2; omega) ?_; intro x2 HX2; have H3 := lay3 H2.out HX2.out; clear HX2))
     obtain ⟨K, HK⟩ : ∃ K, Hid (w1.heap.size = K) := ⟨_, rfl⟩
     obtain ⟨V, HV⟩ : ∃ V, Hid (x1.heap.size = V) := ⟨_, rfl⟩
     rw [HK.out, HV.out] at H3
     rw [HK.out, HV.out]
     clear H1 H2 HA HK HV hHs
     clear x1 w1 wr
     obtain ⟨hSK, hKV⟩ : S + 3 <= K /\ K < V := ⟨H3.out.2.2.2.2.2.2.1, H3.out.2.2.2.2.2.2.2⟩
     go_loopw [14] (fun i wr => ∃ k : Nat, k <= 64 /\ i = .int .i64 k /\ Box (Blk w wr S K V H W (rnd W (St.of H) k).list)) (fun i _ => 64 - (intOf i).toNat)
     case atStart => exact ⟨0, by omega, rfl, ⟨H3.out.1, H3.out.2.1, H3.out.2.2.1, H3.out.2.2.2.1, by rw [rnd, list_of H hH]; exact H3.out.2.2.2.2.1, H3.out.2.2.2.2.2.1⟩⟩
     case round =>
      clear H3 x2
      obtain ⟨k, hk, rfl, HB⟩ := hrel
      by_cases hlt : k < 64
      ·have hok := rnd_ok W _ (St.of_ok hHw) k
       obtain ⟨s, HSt⟩ : ∃ s, Box (rnd W (St.of H) k = s) := ⟨_, ⟨rfl⟩⟩
       have HNX : Box (rnd W (St.of H) (k + 1) = stepSt s (kk.getD k 0) (W.getD k 0)) := ⟨by rw [rnd, HSt.out]⟩
       rw [HSt.out] at HB hok
       obtain ⟨ya, yb, yc, yd, ye, yf, yg, yh⟩ := s
       obtain ⟨ba, bb, bc, bd, be, bf, bg, bh⟩ := hok
       change W32 ya at ba
       change W32 yb at bb
       change W32 yc at bc
       change W32 yd at bd
       change W32 ye at be
       change W32 yf at bf
       change W32 yg at bg
       change W32 yh at bh
       have bW := HWD.out k
       have bK := wrd_kk k
       have cW := u32_cell wr (S + 2) k W _ _ HB.out.2.2.1 (by omega)
       have cK := u32_cell wr K k kk _ _ HB.out.2.2.2.1 hlt
       obtain ⟨wk, HWk⟩ : ∃ z, Hid (W.getD k 0 = z) := ⟨_, rfl⟩
       obtain ⟨kc, HKc⟩ : ∃ z, Hid (kk.getD k 0 = z) := ⟨_, rfl⟩
       rw [HWk.out] at cW bW HNX
       rw [HKc.out] at cK bK HNX
       have v0 := u32_cell wr V 0 _ _ _ HB.out.2.2.2.2.1 (by simp [St.list])
       have v1 := u32_cell wr V 1 _ _ _ HB.out.2.2.2.2.1 (by simp [St.list])
       have v2 := u32_cell wr V 2 _ _ _ HB.out.2.2.2.2.1 (by simp [St.list])
       have v4 := u32_cell wr V 4 _ _ _ HB.out.2.2.2.2.1 (by simp [St.list])
       have v5 := u32_cell wr V 5 _ _ _ HB.out.2.2.2.2.1 (by simp [St.list])
       have v6 := u32_cell wr V 6 _ _ _ HB.out.2.2.2.2.1 (by simp [St.list])
       have v7 := u32_cell wr V 7 _ _ _ HB.out.2.2.2.2.1 (by simp [St.list])
       change wr.cell? ⟨V, 0, none⟩ = some (.int .u32 ya) at v0
       change wr.cell? ⟨V, 1, none⟩ = some (.int .u32 yb) at v1
       change wr.cell? ⟨V, 2, none⟩ = some (.int .u32 yc) at v2
       change wr.cell? ⟨V, 4, none⟩ = some (.int .u32 ye) at v4
       change wr.cell? ⟨V, 5, none⟩ = some (.int .u32 yf) at v5
       change wr.cell? ⟨V, 6, none⟩ = some (.int .u32 yg) at v6
       change wr.cell? ⟨V, 7, none⟩ = some (.int .u32 yh) at v7
       go_wp2_with (go_at_call 85; refine (rright_j _ _ _ (by assumption) (by decide) (by decide)).mono ?_; rintro _ _ ⟨rfl, rfl⟩)
       go_quiet (fail)
       have HB2 : Box (Blk w (wr.drewN nq) S K V H W [ya, yb, yc, yd, ye, yf, yg, yh]) := ⟨HB.out.drewN nq⟩
       have n0 : (wr.drewN nq).cell? ⟨V, 0, none⟩ = some (.int .u32 ya) := v0
       have n1 : (wr.drewN nq).cell? ⟨V, 1, none⟩ = some (.int .u32 yb) := v1
       have n2 : (wr.drewN nq).cell? ⟨V, 2, none⟩ = some (.int .u32 yc) := v2
       clear HB cW cK v0 v1 v2 v4 v5 v6 v7
       generalize wr.drewN nq = x2 at HB2 n0 n1 n2 ⊢
       clear nq wr
       go_wp2_with (go_at_call 85; refine (rright_j _ _ _ (by assumption) (by decide) (by decide)).mono ?_; rintro _ _ ⟨rfl, rfl⟩)
       clear n0 n1 n2
       go_loopw [22] (fun i wr => ∃ q j : Nat, Hid (q + j = 7) /\ i = .int .i64 q /\ Box (Blk w wr S K V H W (sh [ya, yb, yc, yd, ye, yf, yg, yh] j))) (fun i _ => (intOf i).toNat)
       case atStart => exact ⟨7, 0, rfl, rfl, HB2⟩
       case round =>
        clear HB2 x2
        obtain ⟨q, j, HQ, rfl, HB⟩ := hrel
        by_cases hq : 0 < q
        ·obtain ⟨q', HQ'⟩ : ∃ q', Hid (q = q' + 1) := ⟨q - 1, by unfold Hid; omega⟩
         have e1 : (q : Int) - 1 = (q' : Int) := by have := HQ'.out; omega
         have l1 : q' < 8 := by have := HQ.out; have := HQ'.out; omega
         have l2 : q < 8 := by have := HQ.out; omega
         have c1 := u32_cell wr V q' _ _ _ HB.out.2.2.2.2.1 (by rw [length_sh]; exact l1)
         have c2 := u32_cell wr V q _ _ _ HB.out.2.2.2.2.1 (by rw [length_sh]; exact l2)
         have f1 : wr.frozen? ⟨V, q, none⟩ = false := frozen_of_row wr _ _ _ 141 HB.out.2.2.2.2.1
         obtain ⟨y, HY⟩ : ∃ y, Hid ((sh [ya, yb, yc, yd, ye, yf, yg, yh] j).getD q' 0 = y) := ⟨_, rfl⟩
         obtain ⟨y2, HY2⟩ : ∃ y, Hid ((sh [ya, yb, yc, yd, ye, yf, yg, yh] j).getD q 0 = y) := ⟨_, rfl⟩
         rw [HY.out] at c1
         rw [HY2.out] at c2
         have HN : Box (Blk w (wr.setCell ⟨V, q, none⟩ (.int .u32 y)) S K V H W (sh [ya, yb, yc, yd, ye, yf, yg, yh] (j + 1))) := ⟨by
          have h0 := HQ.out
          have h1 := HQ'.out
          rw [sh, show 7 - j = q by omega, show 6 - j = q' by omega, <- sh_far _ j q' (by omega), HY.out]
          exact HB.out.set hSK hKV q y⟩
         clear HY HY2
         go_wp2
         go_roundw
         case rel => exact ⟨q', j + 1, by have := HQ.out; have := HQ'.out; unfold Hid; omega, rfl, HN⟩
         case measure => have := HQ'.out; simp [intOf]; omega
        ·obtain rfl : q = 0 := by omega
         have hj : j = 7 := by have := HQ.out; omega
         subst hj
         have HB7 : Box (Blk w wr S K V H W [ya, ya, yb, yc, yd, ye, yf, yg]) := ⟨HB.out⟩
         have c4 : wr.cell? ⟨V, 4, none⟩ = some (.int .u32 yd) := u32_cell wr V 4 _ _ _ HB7.out.2.2.2.2.1 (by simp)
         have f4 : wr.frozen? ⟨V, 4, none⟩ = false := frozen_of_row wr _ _ _ 141 HB7.out.2.2.2.2.1
         have c0 : ∀ y, (wr.setCell ⟨V, 4, none⟩ (.int .u32 y)).cell? ⟨V, 0, none⟩ = some (.int .u32 ya) := fun y => u32_cell _ V 0 _ _ _ (HB7.out.set hSK hKV 4 y).2.2.2.2.1 (by simp)
         have f0 : ∀ y, (wr.setCell ⟨V, 4, none⟩ (.int .u32 y)).frozen? ⟨V, 0, none⟩ = false := fun y => frozen_of_row _ _ _ _ 141 (HB7.out.set hSK hKV 4 y).2.2.2.2.1
         clear HB HQ
         go_wp2
         go_roundw
         case rel =>
          refine ⟨k + 1, by omega, by go_num, ⟨?_⟩⟩
          rw [HNX.out]
          have h1 := (HB7.out.set hSK hKV 4 (stepSt ⟨ya, yb, yc, yd, ye, yf, yg, yh⟩ kc wk).e).set hSK hKV 0 (stepSt ⟨ya, yb, yc, yd, ye, yf, yg, yh⟩ kc wk).a
          have e4 : (yd + (yh + ep1 ye + cho ye yf yg + kc + wk)) % 4294967296 = (stepSt ⟨ya, yb, yc, yd, ye, yf, yg, yh⟩ kc wk).e := by
           show _ = (yd + (yh + ep1 ye + cho ye yf yg + kc + wk) % 4294967296) % 4294967296
           omega
          have e0 : (yh + ep1 ye + cho ye yf yg + kc + wk + ep0 ya + maj ya yb yc) % 4294967296 = (stepSt ⟨ya, yb, yc, yd, ye, yf, yg, yh⟩ kc wk).a := by
           show _ = ((yh + ep1 ye + cho ye yf yg + kc + wk) % 4294967296 + (ep0 ya + maj ya yb yc) % 4294967296) % 4294967296
           omega
          rw [<- e4, <- e0] at h1
          have h2 : (([ya, ya, yb, yc, yd, ye, yf, yg].set 4 ((yd + (yh + ep1 ye + cho ye yf yg + kc + wk)) % 4294967296)).set 0 ((yh + ep1 ye + cho ye yf yg + kc + wk + ep0 ya + maj ya yb yc) % 4294967296)) = (stepSt ⟨ya, yb, yc, yd, ye, yf, yg, yh⟩ kc wk).list := by
           rw [e4, e0]; rfl
          rw [h2] at h1
          exact h1
         case measure => simp [intOf]; omega
      ·obtain rfl : k = 64 := by omega
       obtain ⟨X, HXX⟩ : ∃ X, Box ((rnd W (St.of H) 64).list = X) := ⟨_, ⟨rfl⟩⟩
       have hXl : X.length = 8 := by rw [<- HXX.out]; rfl
       have hXw : Wrd X := by rw [<- HXX.out]; exact wrd_list (rnd_ok W _ (St.of_ok hHw) 64)
       rw [HXX.out] at HB
       have HM : Box (mz X H 8 = mix H (sched M p)) := ⟨by rw [mz_comm X H hXl hH, <- HXX.out, <- HX.out]; rfl⟩
       clear HXX HX hk hlt
       go_wp2
       go_loopw [23] (fun i wr => ∃ k : Nat, k <= 8 /\ i = .int .i64 k /\ Box (Blk w wr S K V H W (mz X H k))) (fun i _ => 8 - (intOf i).toNat)
       case atStart => exact ⟨0, by omega, rfl, HB⟩
       case round =>
        clear HB
        obtain ⟨k, hk, rfl, HB⟩ := hrel
        by_cases hlt : k < 8
        ·have c1 := u32_cell wr V k (mz X H k) _ _ HB.out.2.2.2.2.1 (by rw [length_mz]; omega)
         rw [mz_far X H k k (Nat.le_refl _)] at c1
         have c2 := u32_cell wr S k H _ _ HB.out.1 (by omega)
         have f1 : wr.frozen? ⟨V, k, none⟩ = false := frozen_of_row wr _ _ _ 141 HB.out.2.2.2.2.1
         have b1 := hXw k
         have b2 := hHw k
         have HN : Box (Blk w (wr.setCell ⟨V, k, none⟩ (.int .u32 ((X.getD k 0 + H.getD k 0) % 4294967296))) S K V H W (mz X H (k + 1))) := ⟨HB.out.set hSK hKV k _⟩
         generalize X.getD k 0 = y1 at c1 b1 HN
         generalize H.getD k 0 = y2 at c2 b2 HN
         obtain ⟨b11, b12⟩ := b1
         obtain ⟨b21, b22⟩ := b2
         go_wp2
         go_region
         go_wp2
         go_roundw
         case rel => exact ⟨k + 1, by omega, by go_num, ⟨HN.out.drew⟩⟩
         case measure => simp [intOf]; omega
        ·obtain rfl : k = 8 := by omega
         obtain ⟨Z, HZ⟩ : ∃ Z, Box (mz X H 8 = Z) := ⟨_, ⟨rfl⟩⟩
         rw [HZ.out] at HB
         have hsz : (u32s Z).size = 8 := by rw [<- HZ.out, size_u32s, length_mz, hXl]
         have HF : Box ((u32s Z).size = 8 /\ (u32s Z).all (·.oneCell') = true /\ Blk w wr S K V H W Z) := ⟨hsz, all_u32s Z, HB.out⟩
         clear hsz HB
         go_wp2_with (first | (refine wpList_load_row rfl 141 _ rfl V rfl 141 (u32s Z) (0, 0) _ HF.out.2.2.2.2.2.2.1 Tryd.underlying141 rfl (by rw [HF.out.1]; kernel_rfl) ?_) | (refine wpList_store_row rfl 141 _ _ rfl (S + 1) (u32s Z) rfl rfl 141 (fil [] 8) HF.out.2.2.2.1 (by rw [HF.out.1]; kernel_rfl) (by rw [HF.out.1]; rfl) HF.out.2.1 ?_))
         (try simp only [Exit.inBlock, Exit.then])
         refine bodyPost_ret (results_cell_row (p := 6) (ty := 141) rfl _ _ (S + 1) 141 (u32s Z) (0, 0) _ rfl (setRow_heap _ _ _ _ _ _ HF.out.2.2.2.1) Tryd.underlying141 rfl (by rw [HF.out.1]; kernel_rfl)) rfl ?_
         exact ⟨by rw [<- HZ.out, HM.out], by rw [HS.out]; exact below_setRow HF.out.2.2.2.2.2.2.2 (by omega) _⟩
end Go.Proofs.YthfobaeafapbnaaDoor.Dig
