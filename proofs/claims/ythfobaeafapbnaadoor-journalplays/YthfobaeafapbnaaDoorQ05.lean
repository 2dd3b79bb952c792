/-
 What stands behind the bytes, and the digest out of the words; nothing of the program is said here. And what follows it.
-/
import Derived.Test.YthfobaeafapbnaaDoorQ03
import Derived.Test.YthfobaeafapbnaaDoorQ04
import Derived.Laws.StructEq
import Derived.ChangeKeysEq
import Derived.BigFrame
set_option linter.unusedVariables false
set_option maxRecDepth 100000
namespace Go.Proofs.YthfobaeafapbnaaDoor.Dig.Plain
open Go.RowKit
structure Box (p : Prop) : Prop where
 out : p
def byteAt (x : Int) (i : Nat) : Int := x / 2 ^ (8 * i) % 256
def lo (x : Int) : Nat -> List Int
 | 0 => []
 | k + 1 => byteAt x k :: lo x k
def tailK (z : Nat) (x : Int) (k : Nat) : List Int := (128 :: List.replicate (z + 8 - k) 0) ++ lo x k
def zs (m : Nat) : Nat := (119 - m % 64) % 64
def padT (M : List Int) : List Int := tailK (zs M.length) (M.length * 8) 8
theorem length_lo (x : Int) (k : Nat) : (lo x k).length = k := by
 induction k with
 | zero => rfl
 | succ k ih => simp [lo, ih]
theorem length_tailK (z : Nat) (x : Int) (k : Nat) (h : k <= 8) : (tailK z x k).length = z + 9 := by
 simp [tailK, length_lo]; omega
theorem tailK_set (z : Nat) (x : Int) (k : Nat) (h : k < 8) : (tailK z x k).set (z + 8 - k) (byteAt x k) = tailK z x (k + 1) := by
 obtain ⟨q, hq⟩ : ∃ q, z + 8 - k = q + 1 := ⟨z + 7 - k, by omega⟩
 have hq' : z + 8 - (k + 1) = q := by omega
 unfold tailK
 rw [hq, hq', lo, List.replicate_succ']
 simp
theorem byt_nil : Byt [] := by intro i; simp
theorem byt_cons (v : Int) (L : List Int) (hv : 0 <= v /\ v <= 255) (h : Byt L) : Byt (v :: L) := by
 intro i
 cases i with
 | zero => simpa using hv
 | succ i => simpa using h i
theorem byt_app (A B : List Int) (hA : Byt A) (hB : Byt B) : Byt (A ++ B) := by
 intro i
 rw [getD_app]
 split
 ·exact hA i
 ·exact hB _
theorem byt_zeros (n : Nat) : Byt (List.replicate n 0) := by
 intro i
 simp only [List.getD, List.getElem?_replicate]
 split <;> simp
theorem byteAt_bd (x : Int) (i : Nat) : 0 <= byteAt x i /\ byteAt x i <= 255 := by unfold byteAt; omega
theorem byt_lo (x : Int) (k : Nat) : Byt (lo x k) := by
 induction k with
 | zero => exact byt_nil
 | succ k ih => exact byt_cons _ _ (byteAt_bd x k) ih
theorem byt_tailK (z : Nat) (x : Int) (k : Nat) : Byt (tailK z x k) := byt_app _ _ (byt_cons _ _ (by omega) (byt_zeros _)) (byt_lo _ _)
theorem byt_padT (M : List Int) : Byt (padT M) := byt_tailK _ _ _
theorem length_padT (M : List Int) : (padT M).length = zs M.length + 9 := length_tailK _ _ _ (Nat.le_refl _)
def dgb (ws : List Int) (i : Nat) : Int := ws.getD (i / 4) 0 / 2 ^ (24 - 8 * (i % 4)) % 256
def dgl (ws : List Int) : Nat -> List Int
 | 0 => []
 | k + 1 => dgl ws k ++ [dgb ws k]
theorem length_dgl (ws : List Int) (k : Nat) : (dgl ws k).length = k := by
 induction k with
 | zero => rfl
 | succ k ih => simp [dgl, ih]
theorem dgb_bd (ws : List Int) (i : Nat) : 0 <= dgb ws i /\ dgb ws i <= 255 := by unfold dgb; omega
theorem byt_dgl (ws : List Int) (k : Nat) : Byt (dgl ws k) := by
 induction k with
 | zero => exact byt_nil
 | succ k ih => exact byt_app _ _ ih (byt_cons _ _ (dgb_bd ws k) byt_nil)
def sha (M : List Int) : List Int := dgl (blk (M ++ padT M) ((M.length + zs M.length + 9) / 64)) 32
theorem length_sha (M : List Int) : (sha M).length = 32 := length_dgl _ _
theorem byt_sha (M : List Int) : Byt (sha M) := byt_dgl _ _
def fil8 (X : List Int) (n : Nat) : Array Value := u8s (X ++ List.replicate (n - X.length) 0)
theorem size_fil8 (X : List Int) (n : Nat) (h : X.length <= n) : (fil8 X n).size = n := by simp [fil8, u8s]; omega
theorem fil8_set (X : List Int) (n : Nat) (v : Int) (h : X.length < n) : (fil8 X n).setIfInBounds X.length (.int .u8 v) = fil8 (X ++ [v]) n := by
 obtain ⟨m, hm⟩ : ∃ m, n - X.length = m + 1 := ⟨n - X.length - 1, by omega⟩
 have hm' : n - (X ++ [v]).length = m := by simp; omega
 unfold fil8 u8s
 rw [hm, hm']
 simp [List.replicate_succ]
theorem fil8_full (X : List Int) (n : Nat) (h : X.length = n) : fil8 X n = u8s X := by simp [fil8, h]
theorem fil8_some (X : List Int) (n i : Nat) (h : i < n) (hX : X.length <= n) : ∃ v, (fil8 X n)[i]? = some v := by
 have : i < (fil8 X n).size := by rw [size_fil8 X n hX]; exact h
 exact ⟨_, Array.getElem?_eq_getElem this⟩
theorem u8s_set (L : List Int) (k : Nat) (v : Int) : (u8s L).setIfInBounds k (.int .u8 v) = u8s (L.set k v) := by simp [u8s, List.map_set]
theorem made_u8s {w' : World} {base g n : Nat} (h : w'.ownsRow base 5 1 (.slice (some ⟨g, 0, none⟩) n n) n (madeCells (Value.int .u8 0).cells (n * 1)).toList) :
  w'.heap[g]? = some (.cells (u8s (List.replicate n 0)) 5 (0, 0)) := by
 obtain ⟨h1, h2⟩ := h
 rcases h2 with ⟨h3, _⟩ | ⟨g', cap, cur, h3, _, hh, _, _, hs, ht⟩
 ·simp at h3
 ·simp only [Value.slice.injEq, Option.some.injEq, Addr.mk.injEq, and_true, true_and] at h3
  obtain ⟨rfl, rfl⟩ := h3
  have e : (Value.int .u8 0).cells = #[Value.int .u8 0] := rfl
  rw [e, toList_madeCells_one, Nat.mul_one, List.take_of_length_le (by simp at hs ⊢; omega)] at ht
  have e2 : cur = u8s (List.replicate n 0) := by
   rw [<- Array.toList_inj, ht]; simp [u8s]
  rw [hh, e2]
theorem bytes_of_row {w : World} {g : Nat} {X : List Int} {t : TypeId} {fr : Nat × Nat} (hX : Byt X) (hg : w.heap[g]? = some (.cells (u8s X) t fr)) : Bytes w (some ⟨g, 0, none⟩) X.length X :=
 ⟨rfl, hX, fun _ => ⟨g, 0, rfl, (Array.getElem?_eq_some_iff.1 hg).1, fun i hi => by rw [Nat.zero_add]; exact row_cell w g i X t fr hg hi⟩⟩
end Go.Proofs.YthfobaeafapbnaaDoor.Dig.Plain
namespace Go.Proofs.YthfobaeafapbnaaDoor.Dig
open Go.RowKit Go.Proofs.YthfobaeafapbnaaDoor.Dig.Plain
theorem info5 : (Tryd.prog.info? 5).map (fun i => (i.zero, i.size, i.bytes)) = some (some (.int .u8 0), 1, 1) := by kernel_rfl
set_option maxRecDepth 20000 in
set_option maxHeartbeats 400000 in
theorem end_any (G : Nat) (M : List Int) (w : World) (hT : Tabs w) (hG : Gat w G M M.length) (hG2 : 2 <= G) (hl : M.length <= 900000) :
  Calls Tryd.prog 61 #[.pointer (some ⟨G, 0, none⟩)] w fun e w' => e = .returned (.agg (u8s (sha M))) /\ But G w w' := by
 obtain ⟨i0, hi, hz0, hz1, hz2⟩ := info_parts info5
 have HG := hG
 obtain ⟨ws, B, held, hg, hI⟩ := hG
 have cT : w.cell? ⟨G, 73, none⟩ = some (.int .u64 M.length) := by rw [cell_of_row _ _ _ _ _ _ hg]; simpa using gc_tot hI.h8 hI.h64 held M.length
 have cH : w.cell? ⟨G, 72, none⟩ = some (.int .i64 held) := by rw [cell_of_row _ _ _ _ _ _ hg]; simpa using gc_held hI.h8 hI.h64 held M.length
 have hheld : held < 64 := by rw [hI.hheld]; omega
 obtain ⟨z, hz⟩ : ∃ z, Hid (zs M.length = z) := ⟨_, rfl⟩
 have hzi : (119 - (held : Int)) % 64 = (z : Int) := by rw [<- hz.out, hI.hheld]; unfold zs; omega
 have hzb : z < 64 := by omega
 have hGlt : G < w.heap.size := (Array.getElem?_eq_some_iff.1 hg).1
 have HG' : Hid _ := HG
 clear HG hg hI ws B
 generalize hm : M.length = m at cT hl hz HG'
 obtain ⟨S, HS⟩ : ∃ S, Hid (w.heap.size = S) := ⟨_, rfl⟩
 go_enter Tryd.func61, Tryd.ntmps61
 have hz32 : fil8 [] 32 = #[.int .u8 0, .int .u8 0, .int .u8 0, .int .u8 0, .int .u8 0, .int .u8 0, .int .u8 0, .int .u8 0, .int .u8 0, .int .u8 0, .int .u8 0, .int .u8 0, .int .u8 0, .int .u8 0, .int .u8 0, .int .u8 0, .int .u8 0, .int .u8 0, .int .u8 0, .int .u8 0, .int .u8 0, .int .u8 0, .int .u8 0, .int .u8 0, .int .u8 0, .int .u8 0, .int .u8 0, .int .u8 0, .int .u8 0, .int .u8 0, .int .u8 0, .int .u8 0] := rfl
 have HZ32 : Hid _ := hz32
 clear hz32
 go_wp2_with (at_make; refine wpList_make_full _ rfl (.tmp 22) (.tmp 22) 63 rfl _ 5 i0 (.int .u8 0) 1 Tryd.underlying63 hi hz0 hz1 _ _ _ _ (z + 9) rfl rfl (by omega) (by omega) (by rw [hz2]; omega) (by unfold maxLen; omega) (Nat.le_refl _) ?_; intro w1 hown hgrow; have HR0 := made_u8s hown; rw [World.size_alloc] at HR0; have c1 := row_cell w1 _ 0 _ _ _ HR0 (by simp); have f1 := frozen_of_row w1 _ 0 _ 5 HR0; have HR : Hid _ := HR0; have HGR : Hid _ := hgrow; clear hown hgrow HR0)
 rw [<- HZ32.out] at HGR
 have HW1 : Hid (w1.heap[w.heap.size]? = some (.cells (fil8 [] 32) 23 (0, 0)) /\ (∀ k, k < w.heap.size -> w1.heap[k]? = w.heap[k]?) /\ But G w w1) := by
  have hgr := HGR.out
  have hold : ∀ k, k < w.heap.size -> w1.heap[k]? = w.heap[k]? := fun k hk => (hgr.block k (by simp; omega) (by simp)).trans (Below.heap_alloc _ _ _ hk)
  refine ⟨(hgr.block w.heap.size (by simp) (by simp)).trans (heap_alloc_new _ _), hold, ⟨hgr.os, hgr.tape, hgr.output, ?_, fun k hk _ => hold k hk⟩⟩
  have := hgr.size
  simp at this
  omega
 have HW2 : Hid ((w1.setCell ⟨w.heap.size + 1, 0, none⟩ (.int .u8 128)).heap[w.heap.size + 1]? = some (.cells (u8s (tailK z (m * 8) 0)) 5 (0, 0)) /\ (w1.setCell ⟨w.heap.size + 1, 0, none⟩ (.int .u8 128)).heap[w.heap.size]? = some (.cells (fil8 [] 32) 23 (0, 0)) /\ (∀ k, k < w.heap.size -> (w1.setCell ⟨w.heap.size + 1, 0, none⟩ (.int .u8 128)).heap[k]? = w.heap[k]?) /\ But G w (w1.setCell ⟨w.heap.size + 1, 0, none⟩ (.int .u8 128))) := by
  have hoth : ∀ k, k ≠ w.heap.size + 1 -> (w1.setCell ⟨w.heap.size + 1, 0, none⟩ (.int .u8 128)).heap[k]? = w1.heap[k]? := fun k hk => heap_setCell_other w1 ⟨w.heap.size + 1, 0, none⟩ k _ (fun e => hk e)
  obtain ⟨a1, a2, a3⟩ := HW1.out
  refine ⟨?_, (hoth _ (by omega)).trans a1, fun k hk => (hoth k (by omega)).trans (a2 k hk), ⟨a3.os, a3.tape, a3.output, by simpa using a3.size, fun k hk hn => (hoth k (by omega)).trans (a3.block k hk hn)⟩⟩
  rw [heap_setCell_same w1 _ 0 _ 5 _ HR.out, u8s_set]
  simp [tailK, lo, List.replicate_succ]
 generalize w1.setCell ⟨w.heap.size + 1, 0, none⟩ (.int .u8 128) = w2 at HW2 ⊢
 clear HR HGR HW1 c1 f1 cT cH
 go_loopw [26] (fun i wr => ∃ k : Nat, k <= 8 /\ i = .int .i64 k /\ Hid (wr.heap[w.heap.size + 1]? = some (.cells (u8s (tailK z (m * 8) k)) 5 (0, 0)) /\ wr.heap[w.heap.size]? = some (.cells (fil8 [] 32) 23 (0, 0)) /\ (∀ k, k < w.heap.size -> wr.heap[k]? = w.heap[k]?) /\ But G w wr)) (fun i _ => 8 - (intOf i).toNat)
 case atStart => exact ⟨0, by omega, rfl, HW2⟩
 case round =>
  clear HW2 w2 w1
  obtain ⟨k, hk, rfl, HWr⟩ := hrel
  by_cases hlt : k < 8
  ·obtain ⟨q, HQ⟩ : ∃ q, Hid (z + 8 - k = q) := ⟨_, rfl⟩
   have hq : z + 8 - k = q := HQ.out
   have eq1 : (z : Int) + 9 - 1 - k = (q : Int) := by omega
   have lq : q < z + 9 := by omega
   have c1 := row_cell wr (w.heap.size + 1) q _ _ _ HWr.out.1 (by rw [length_tailK _ _ _ (by omega)]; omega)
   have f1 : wr.frozen? ⟨w.heap.size + 1, q, none⟩ = false := frozen_of_row wr _ _ _ 5 HWr.out.1
   have HW3 : Hid ((wr.setCell ⟨w.heap.size + 1, q, none⟩ (.int .u8 (byteAt (m * 8) k))).heap[w.heap.size + 1]? = some (.cells (u8s (tailK z (m * 8) (k + 1))) 5 (0, 0)) /\ (wr.setCell ⟨w.heap.size + 1, q, none⟩ (.int .u8 (byteAt (m * 8) k))).heap[w.heap.size]? = some (.cells (fil8 [] 32) 23 (0, 0)) /\ (∀ k', k' < w.heap.size -> (wr.setCell ⟨w.heap.size + 1, q, none⟩ (.int .u8 (byteAt (m * 8) k))).heap[k']? = w.heap[k']?) /\ But G w (wr.setCell ⟨w.heap.size + 1, q, none⟩ (.int .u8 (byteAt (m * 8) k)))) := by
    have hoth : ∀ k', k' ≠ w.heap.size + 1 -> (wr.setCell ⟨w.heap.size + 1, q, none⟩ (.int .u8 (byteAt (m * 8) k))).heap[k']? = wr.heap[k']? := fun k' hk => heap_setCell_other wr ⟨w.heap.size + 1, q, none⟩ k' _ (fun e => hk e)
    obtain ⟨a0, a1, a2, a3⟩ := HWr.out
    refine ⟨?_, (hoth _ (by omega)).trans a1, fun k hk => (hoth k (by omega)).trans (a2 k hk), ⟨a3.os, a3.tape, a3.output, by simpa using a3.size, fun k hk hn => (hoth k (by omega)).trans (a3.block k hk hn)⟩⟩
    rw [heap_setCell_same wr _ q _ 5 _ a0, u8s_set, <- hq, tailK_set z _ k hlt]
   clear hq
   go_wp2
   go_roundw
   case rel => exact ⟨k + 1, by omega, by go_num, HW3⟩
   case measure => simp [intOf]; omega
  ·obtain rfl : k = 8 := by omega
   have HPT : Hid (padT M = tailK z (m * 8) 8) := by rw [Hid, padT, hm, hz.out]
   have hlen := length_tailK z (m * 8) 8 (Nat.le_refl _)
   obtain ⟨a0, a1, a2, a3⟩ := HWr.out
   have hBT : Bytes wr (some ⟨w.heap.size + 1, 0, none⟩) (z + 9) (tailK z (m * 8) 8) := by
    have := bytes_of_row (byt_tailK z (m * 8) 8) a0
    rwa [hlen] at this
   have hTr : Tabs wr := hT.below' a3 hG2
   have hGr : Gat wr G M M.length := by
    obtain ⟨ws, B, held, h1, h2⟩ := HG'.out
    exact ⟨ws, B, held, by rw [a2 G hGlt, hm]; exact h1, h2⟩
   have HADD := add_any G (z + 9) (z + 9) (some ⟨w.heap.size + 1, 0, none⟩) (tailK z (m * 8) 8) M wr hTr hGr hG2 hBT (fun _ ad e => by cases e; show w.heap.size + 1 ≠ G; omega) (by omega) (Nat.le_refl _) (by omega)
   rw [<- HPT.out, hm] at HADD
   have HA : Hid (Calls Tryd.prog 60 #[.pointer (some ⟨G, 0, none⟩), .slice (some ⟨w.heap.size + 1, 0, none⟩) (z + 9) (z + 9)] wr fun e w' => e = .returned (.tuple #[]) /\ Gat w' G (M ++ padT M) (m + (z + 9)) /\ But G wr w') := HADD
   have HRR : Hid (wr.heap[w.heap.size]? = some (.cells (fil8 [] 32) 23 (0, 0)) /\ But G w wr) := ⟨a1, a3⟩
   have hzm : zs m = z := hz.out
   have HML : Hid ((M ++ padT M).length = m + (z + 9)) := by rw [Hid, List.length_append, length_padT, hm, hzm]
   have hmod : (m + (z + 9)) % 64 = 0 := by rw [<- hzm]; unfold zs; omega
   have HMOD : Hid _ := hmod
   have HSHA : Hid (dgl (blk (M ++ padT M) ((m + (z + 9)) / 64)) 32 = sha M) := by rw [Hid, sha, hm, hzm, Nat.add_assoc]
   clear a0 a1 a2 a3 hBT hTr hGr HADD hlen HPT HWr HG' hz hmod hzm hzi hm
   generalize padT M = PT at HA HML HSHA
   go_wp2_with (go_at_call 60; refine Calls.mono HA.out ?_; rintro e w3 ⟨rfl, hg3, hb3⟩; obtain ⟨ws, B, held', h1, hI⟩ := hg3; have HG3 : Hid _ := h1; have HI : Hid _ := hI; have HB3 : Hid _ := hb3; clear h1 hI hb3)
   have hws : ws = blk (M ++ PT) ((m + (z + 9)) / 64) := by rw [<- HML.out]; exact HI.out.hws
   have h8 := HI.out.h8
   have hwrd := HI.out.wrd
   have HSH : Box (dgl ws 32 = sha M) := ⟨by rw [hws]; exact HSHA.out⟩
   clear HSHA
   obtain ⟨O, HO⟩ : ∃ O, Hid (w3.heap.size = O) := ⟨_, rfl⟩
   rw [HO.out]
   have hGO : G < O := by rw [<- HO.out]; exact (Array.getElem?_eq_some_iff.1 HG3.out).1
   have hSO : w.heap.size < O := by
    rw [<- HO.out]
    exact Nat.lt_of_lt_of_le (Array.getElem?_eq_some_iff.1 HRR.out.1).1 HB3.out.size
   have hr3 : w3.heap[w.heap.size]? = some (.cells (fil8 [] 32) 23 (0, 0)) := by rw [HB3.out.block _ (Array.getElem?_eq_some_iff.1 HRR.out.1).1 (by omega)]; exact HRR.out.1
   have hb03 : But G w w3 := HRR.out.2.trans HB3.out
   rw [<- HZ32.out]
   have HX : Hid ((w3.alloc (.cells (fil8 [] 32) 23)).heap[G]? = some (.cells (gc ws B held' (m + (z + 9) : Nat)).toArray 144 (0, 0)) /\ (w3.alloc (.cells (fil8 [] 32) 23)).heap[w.heap.size]? = some (.cells (fil8 [] 32) 23 (0, 0)) /\ (w3.alloc (.cells (fil8 [] 32) 23)).heap[O]? = some (.cells (fil8 (dgl ws 0) 32) 23 (0, 0)) /\ But G w (w3.alloc (.cells (fil8 [] 32) 23))) := by
    refine ⟨al_old HG3.out, al_old hr3, al_at HO.out, hb03.trans (But.of_below ((Below.refl _ _).alloc (Nat.le_refl _) _))⟩
   clear hr3 hb03 HB3 HRR HA HML HMOD HG3 hws hlt hk hi hz0 hz1 hz2
   generalize w3.alloc (.cells (fil8 [] 32) 23) = w4 at HX ⊢
   have h64 := HI.out.h64
   clear HI HO HZ32 w3 wr
   go_loopw [45] (fun i wr => ∃ k : Nat, k <= 32 /\ i = .int .i64 k /\ Hid (wr.heap[G]? = some (.cells (gc ws B held' (m + (z + 9) : Nat)).toArray 144 (0, 0)) /\ wr.heap[w.heap.size]? = some (.cells (fil8 [] 32) 23 (0, 0)) /\ wr.heap[O]? = some (.cells (fil8 (dgl ws k) 32) 23 (0, 0)) /\ But G w wr)) (fun i _ => 32 - (intOf i).toNat)
   case atStart => exact ⟨0, by omega, rfl, HX⟩
   case round =>
    clear HX w4
    obtain ⟨k, hk, rfl, HWr⟩ := hrel
    by_cases hlt : k < 32
    ·obtain ⟨q, HQ⟩ : ∃ q, Hid (k / 4 = q) := ⟨_, rfl⟩
     obtain ⟨r, HR⟩ : ∃ r, Hid (k % 4 = r) := ⟨_, rfl⟩
     have hq : k / 4 = q := HQ.out
     have hr : k % 4 = r := HR.out
     have eq1 : (k : Int) / 4 = (q : Int) := by omega
     have eq2 : (k : Int) % 4 = (r : Int) := by omega
     have lq : q < 8 := by omega
     have lr : r < 4 := by omega
     have c1 : wr.cell? ⟨G, q, none⟩ = some (.int .u32 (ws.getD q 0)) := by
      rw [cell_of_row _ _ _ _ _ _ HWr.out.1]
      have := gc_words h8 held' (m + (z + 9) : Nat) (B := B) q lq
      simpa using this
     have b1 := hwrd q
     obtain ⟨b1, b2⟩ := b1
     have HD : Hid (dgb ws k = ws.getD q 0 / 2 ^ (24 - 8 * r) % 256) := by rw [Hid, dgb, hq, hr]
     generalize ws.getD q 0 = y at c1 b1 b2 HD
     have hln := length_dgl ws k
     have f1 : wr.frozen? ⟨O, k, none⟩ = false := frozen_of_row wr _ _ _ 23 HWr.out.2.2.1
     obtain ⟨v, hcw⟩ : ∃ v, wr.cell? ⟨O, k, none⟩ = some v := by
      obtain ⟨v, hv⟩ := fil8_some (dgl ws k) 32 k hlt (by omega)
      exact ⟨v, by rw [cell_of_row _ _ _ _ _ _ HWr.out.2.2.1]; exact hv⟩
     have HW3 : Hid ((wr.setCell ⟨O, k, none⟩ (.int .u8 (dgb ws k))).heap[G]? = some (.cells (gc ws B held' (m + (z + 9) : Nat)).toArray 144 (0, 0)) /\ (wr.setCell ⟨O, k, none⟩ (.int .u8 (dgb ws k))).heap[w.heap.size]? = some (.cells (fil8 [] 32) 23 (0, 0)) /\ (wr.setCell ⟨O, k, none⟩ (.int .u8 (dgb ws k))).heap[O]? = some (.cells (fil8 (dgl ws (k + 1)) 32) 23 (0, 0)) /\ But G w (wr.setCell ⟨O, k, none⟩ (.int .u8 (dgb ws k)))) := by
      have hoth : ∀ k', k' ≠ O -> (wr.setCell ⟨O, k, none⟩ (.int .u8 (dgb ws k))).heap[k']? = wr.heap[k']? := fun k' hk => heap_setCell_other wr ⟨O, k, none⟩ k' _ (fun e => hk e)
      obtain ⟨a0, a1, a2, a3⟩ := HWr.out
      refine ⟨(hoth _ (by omega)).trans a0, (hoth _ (by omega)).trans a1, ?_, ⟨a3.os, a3.tape, a3.output, by simpa using a3.size, fun k hk hn => (hoth k (by omega)).trans (a3.block k hk hn)⟩⟩
      rw [heap_setCell_same wr _ k _ 23 _ a2, dgl, <- fil8_set _ _ _ (by omega), hln]
     clear hq hr hln HQ HR
     go_wp2
     go_roundw
     case rel => exact ⟨k + 1, by omega, by go_num, by rw [<- HD.out]; exact HW3⟩
     case measure => simp [intOf]; omega
    ·obtain rfl : k = 32 := by omega
     obtain ⟨a0, a1, a2, a3⟩ := HWr.out
     obtain ⟨X, HX⟩ : ∃ X, Box (sha M = X) := ⟨_, ⟨rfl⟩⟩
     rw [fil8_full _ 32 (length_dgl ws 32), HSH.out, HX.out] at a2
     have hXl : (u8s X).size = 32 := by rw [<- HX.out, size_u8s, length_sha]
     have HF : Box ((u8s X).size = 32 /\ (u8s X).all (·.oneCell') = true /\ wr.heap[O]? = some (.cells (u8s X) 23 (0, 0)) /\ wr.heap[w.heap.size]? = some (.cells (fil8 [] 32) 23 (0, 0)) /\ But G w wr) := ⟨hXl, all_u8s X, a2, a1, a3⟩
     clear a0 a1 a2 a3 hXl HSH HWr
     go_wp2_with (first | (refine wpList_load_row rfl 23 _ rfl O rfl 23 (u8s X) (0, 0) _ HF.out.2.2.1 Tryd.underlying23 rfl (by rw [HF.out.1]; kernel_rfl) ?_) | (refine wpList_store_row rfl 23 _ _ rfl w.heap.size (u8s X) rfl rfl 23 (fil8 [] 32) HF.out.2.2.2.1 (by rw [HF.out.1]; kernel_rfl) (by rw [HF.out.1]; rfl) HF.out.2.1 ?_))
     (try simp only [Exit.inBlock, Exit.then])
     refine bodyPost_ret (results_cell_row (p := 2) (ty := 23) rfl _ _ w.heap.size 23 (u8s X) (0, 0) _ rfl (setRow_heap _ _ _ _ _ _ HF.out.2.2.2.1) Tryd.underlying23 rfl (by rw [HF.out.1]; kernel_rfl)) rfl ?_
     refine ⟨by rw [HX.out], ?_⟩
     obtain ⟨_, _, _, _, hb⟩ := HF.out
     exact ⟨hb.os, hb.tape, hb.output, by simpa [World.setRow] using hb.size, fun k hk hn => by rw [setRow_other _ _ k _ (by omega)]; exact hb.block k hk hn⟩
def joinTo (C : Nat -> List Int) : Nat -> List Int
 | 0 => []
 | k + 1 => joinTo C k ++ C k
def Pcs (w : World) (a : Option Addr) (n : Nat) (va : Nat -> Option Addr) (vl vc : Nat -> Nat) (C : Nat -> List Int) : Prop :=
 (0 < n -> ∃ b off, a = some ⟨b, off, none⟩ /\ b < w.heap.size /\ ∀ i, i < n -> w.cell? ⟨b, off + i, none⟩ = some (.slice (va i) (vl i) (vc i))) /\
 ∀ i, i < n -> Bytes w (va i) (vl i) (C i) /\ vl i <= vc i /\ vc i <= 9223372036854775807
theorem joinTo_le (C : Nat -> List Int) (k n : Nat) (h : k <= n) : (joinTo C k).length <= (joinTo C n).length := by
 induction n with
 | zero => rw [Nat.le_zero.1 h]; exact Nat.le_refl _
 | succ n ih =>
  by_cases e : k = n + 1
  ·rw [e]; exact Nat.le_refl _
  ·have := ih (by omega)
   rw [joinTo, List.length_append]; omega
theorem bytes_but {w w' : World} {G : Nat} {a : Option Addr} {len : Nat} {L : List Int} (h : Bytes w a len L) (hb : But G w w') (hn : w.heap.size <= G) : Bytes w' a len L := by
 refine ⟨h.1, h.2.1, fun hp => ?_⟩
 obtain ⟨b, off, e, hlt, hc⟩ := h.2.2 hp
 exact ⟨b, off, e, Nat.lt_of_lt_of_le hlt hb.size, fun i hi => (hb.cell hlt (by omega)).trans (hc i hi)⟩
theorem built47 : (Tryd.prog.built 144 [(0, .agg (u32s hh))]) = some (gc hh (List.replicate 64 0) 0 0).toArray := by kernel_rfl
theorem wpList_build47 {ops : Array Oper} {rest : List Oper} {o : Oper} {a : Act} {w : World} {Q : Exit -> Act -> World -> Prop} (hg : o.guard = none) (x : Operand) (ho : o.op = .build 144 #[(0, x)]) (hx : a.eval x = .agg (u32s hh))
  (h : wpList Tryd.prog ops Q rest (a.put o.dst (.agg (gc hh (List.replicate 64 0) 0 0).toArray)) w) : wpList Tryd.prog ops Q (o :: rest) a w := by
 have e : Tryd.prog.built 144 ((#[(0, x)] : Array (Nat × Operand)).map fun (i, x) => (i, a.eval x)).toList = some (gc hh (List.replicate 64 0) 0 0).toArray := by
  simp only [List.map_toArray, List.map_cons, List.map_nil, hx]
  exact built47
 refine wpList_build hg 144 _ ho ?_ ?_
 ·rw [e]; rfl
 ·rw [e]; exact h
theorem zero47 (x : World) : (zeroValue 144).run Tryd.prog x = .ok (.agg (gc (List.replicate 8 0) (List.replicate 64 0) 0 0).toArray) x := by kernel_rfl
theorem gat_start {w : World} {G : Nat} (h : w.heap[G]? = some (.cells (gc hh (List.replicate 64 0) 0 0).toArray 144 (0, 0))) : Gat w G [] 0 := ⟨_, _, _, h, Inv.start⟩
set_option maxRecDepth 20000 in
set_option maxHeartbeats 400000 in
theorem pieces_any (a : Option Addr) (n cap : Nat) (va : Nat -> Option Addr) (vl vc : Nat -> Nat) (C : Nat -> List Int) (w : World) (hT : Tabs w) (hP : Pcs w a n va vl vc C) (hl : (joinTo C n).length <= 900000) (hn : n <= maxLen) :
  Calls Tryd.prog 41 #[.slice a n cap] w fun e w' => e = .returned (.agg (u8s (sha (joinTo C n)))) /\ Below w.heap.size w w' := by
 unfold maxLen at hn
 have HR0 : Hid (w.rangeAt 0 0 (hh.map (Value.int .u32))) := by
  intro j v hj
  have hj8 : j < 8 := by simpa [hh] using (List.getElem?_eq_some_iff.1 hj).1
  rw [Nat.zero_add, hT.2.1 j hj8, <- hj, List.getElem?_map, getD_of_lt hh j hj8]; rfl
 have h2 := hT.1
 go_enter Tryd.func41, Tryd.ntmps41
 have HZ : Hid ((gc hh (List.replicate 64 0) 0 0).toArray.size = 74 /\ (gc hh (List.replicate 64 0) 0 0).toArray.all (·.oneCell') = true) := ⟨rfl, by kernel_rfl⟩
 obtain ⟨g0, HG0⟩ : ∃ g0, Box ((gc hh (List.replicate 64 0) 0 0).toArray = g0) := ⟨_, ⟨rfl⟩⟩
 obtain ⟨z0, HZ0⟩ : ∃ z0, Box ((gc (List.replicate 8 0) (List.replicate 64 0) 0 0).toArray = z0) := ⟨_, ⟨rfl⟩⟩
 have hz0 := zero47
 rw [HZ0.out] at hz0
 have hz0s : z0.size = 74 := by rw [<- HZ0.out]; rfl
 have HZS : Hid _ := hz0s
 clear hz0s
 go_wp2_with (first | (refine wpList_load_mid rfl 141 _ rfl 0 0 rfl (hh.map (Value.int .u32)) _ (World.rangeAt_alloc HR0.out _) Tryd.underlying141 rfl (by kernel_rfl) ?_) | (refine wpList_build47 rfl (.tmp 6) rfl rfl ?_; rw [HG0.out]) | (refine wpList_store_row rfl 144 (.tmp 3) (.tmp 7) rfl (w.heap.size + 1) g0 rfl rfl 144 z0 (al_at (by simp)) (by rw [<- HG0.out, HZ.out.1]; kernel_rfl) (by rw [<- HG0.out, HZ.out.1]; exact HZS.out) (by rw [<- HG0.out]; exact HZ.out.2) ?_))
 have HZ32 : Hid (fil8 [] 32 = #[.int .u8 0, .int .u8 0, .int .u8 0, .int .u8 0, .int .u8 0, .int .u8 0, .int .u8 0, .int .u8 0, .int .u8 0, .int .u8 0, .int .u8 0, .int .u8 0, .int .u8 0, .int .u8 0, .int .u8 0, .int .u8 0, .int .u8 0, .int .u8 0, .int .u8 0, .int .u8 0, .int .u8 0, .int .u8 0, .int .u8 0, .int .u8 0, .int .u8 0, .int .u8 0, .int .u8 0, .int .u8 0, .int .u8 0, .int .u8 0, .int .u8 0, .int .u8 0]) := rfl
 rw [<- HZ32.out]
 have HX : Hid ((((w.alloc (.cells (fil8 [] 32) 23)).alloc (.cells z0 144)).setRow (w.heap.size + 1) g0).heap[w.heap.size]? = some (.cells (fil8 [] 32) 23 (0, 0)) /\ Gat (((w.alloc (.cells (fil8 [] 32) 23)).alloc (.cells z0 144)).setRow (w.heap.size + 1) g0) (w.heap.size + 1) [] 0 /\ But (w.heap.size + 1) w (((w.alloc (.cells (fil8 [] 32) 23)).alloc (.cells z0 144)).setRow (w.heap.size + 1) g0)) := by
  refine ⟨?_, gat_start ?_, ?_⟩
  ·rw [setRow_other _ _ _ _ (by omega)]; exact al_old (al_at rfl)
  ·rw [setRow_heap _ _ z0 _ 144 (0, 0) (al_at (by simp)), HG0.out]
  ·exact (But.of_below (((Below.refl _ _).alloc (Nat.le_refl _) _).alloc (by simp) _)).setRow _
 generalize ((w.alloc (.cells (fil8 [] 32) 23)).alloc (.cells z0 144)).setRow (w.heap.size + 1) g0 = x0 at HX ⊢
 clear hz0 HZ0 HZS HG0 HZ HR0 HZ32
 go_loopw [10] (fun i wr => ∃ k : Nat, k <= n /\ i = .int .i64 k /\ Hid (wr.heap[w.heap.size]? = some (.cells (fil8 [] 32) 23 (0, 0)) /\ Gat wr (w.heap.size + 1) (joinTo C k) (joinTo C k).length /\ But (w.heap.size + 1) w wr)) (fun i _ => n - (intOf i).toNat)
 case atStart => exact ⟨0, by omega, rfl, HX⟩
 case round =>
  clear HX x0
  obtain ⟨k, hk, rfl, HWr⟩ := hrel
  obtain ⟨a1, a2, a3⟩ := HWr.out
  have hTr : Tabs wr := hT.below' a3 (by omega)
  by_cases hlt : k < n
  ·obtain ⟨hp1, hp2⟩ := hP
   obtain ⟨b, off, rfl, hb, hc⟩ := hp1 (by omega)
   obtain ⟨hB, hv1, hv2⟩ := hp2 k hlt
   have hck : wr.cell? ⟨b, off + k, none⟩ = some (.slice (va k) (vl k) (vc k)) := (a3.cell hb (by omega)).trans (hc k hlt)
   have hjl := joinTo_le C (k + 1) n (by omega)
   have hjs : (joinTo C (k + 1)).length = (joinTo C k).length + vl k := by rw [joinTo, List.length_append, hB.1]
   have HADD : Hid (Calls Tryd.prog 60 #[.pointer (some ⟨w.heap.size + 1, 0, none⟩), .slice (va k) (vl k) (vc k)] wr fun e w' => e = .returned (.tuple #[]) /\ Gat w' (w.heap.size + 1) (joinTo C (k + 1)) (joinTo C (k + 1)).length /\ But (w.heap.size + 1) wr w') := by
    rw [hjs]
    refine add_any (w.heap.size + 1) (vl k) (vc k) (va k) (C k) (joinTo C k) wr hTr a2 (by omega) (bytes_but hB a3 (by omega)) (fun hv0 ad e => ?_) (by omega) hv1 hv2
    obtain ⟨b', off', e', hb', _⟩ := hB.2.2 hv0
    rw [e'] at e; cases e; show b' ≠ _; omega
   have HR : Hid (wr.heap[w.heap.size]? = some (.cells (fil8 [] 32) 23 (0, 0)) /\ But (w.heap.size + 1) w wr) := ⟨a1, a3⟩
   clear hp1 hp2 hc hB hv1 hv2 hjs hjl a1 a2 a3 HWr
   go_wp2_with (go_at_call 60; refine Calls.mono HADD.out ?_; rintro e w3 ⟨rfl, hg3, hb3⟩; have HG3 : Hid _ := hg3; have HB3 : Hid _ := hb3; clear hg3 hb3)
   go_roundw
   case rel =>
    refine ⟨k + 1, by omega, by go_num, ?_, HG3.out, HR.out.2.trans HB3.out⟩
    rw [HB3.out.block _ (Array.getElem?_eq_some_iff.1 HR.out.1).1 (by omega)]; exact HR.out.1
   case measure => simp [intOf]; omega
  ·obtain rfl : k = n := by omega
   have HEND : Hid _ := end_any (w.heap.size + 1) (joinTo C k) wr hTr a2 (by omega) hl
   obtain ⟨X, HX⟩ : ∃ X, Box (sha (joinTo C k) = X) := ⟨_, ⟨rfl⟩⟩
   have hXs : (u8s X).size = 32 := by rw [<- HX.out, size_u8s, length_sha]
   have HEN : Box (Calls Tryd.prog 61 #[.pointer (some ⟨w.heap.size + 1, 0, none⟩)] wr fun e w' => e = .returned (.agg (u8s X)) /\ But (w.heap.size + 1) wr w') := ⟨by rw [<- HX.out]; exact HEND.out⟩
   have HR : Hid (wr.heap[w.heap.size]? = some (.cells (fil8 [] 32) 23 (0, 0)) /\ But (w.heap.size + 1) w wr) := ⟨a1, a3⟩
   have HXs : Hid ((u8s X).size = 32) := hXs
   clear HEND a1 a2 a3 HWr hXs hP
   go_wp2_with (first | (go_at_call 61; refine Calls.mono HEN.out ?_; rintro e w3 ⟨rfl, hb3⟩; have HB3 : Hid _ := hb3; have HR3 : Hid (w3.heap[w.heap.size]? = some (.cells (fil8 [] 32) 23 (0, 0))) := (hb3.block _ (Array.getElem?_eq_some_iff.1 HR.out.1).1 (Nat.ne_of_lt (Nat.lt_succ_self _))).trans HR.out.1; clear hb3) | (refine wpList_store_row rfl 23 _ _ rfl w.heap.size (u8s X) rfl rfl 23 (fil8 [] 32) HR3.out (by rw [HXs.out]; kernel_rfl) (by rw [HXs.out]; rfl) (all_u8s X) ?_))
   (try simp only [Exit.inBlock, Exit.then])
   refine bodyPost_ret (results_cell_row (p := 2) (ty := 23) rfl _ _ w.heap.size 23 (u8s X) (0, 0) _ rfl (setRow_heap _ _ _ _ _ _ HR3.out) Tryd.underlying23 rfl (by rw [HXs.out]; kernel_rfl)) rfl ?_
   exact ⟨by rw [HX.out], below_setRow ((HR.out.2.trans HB3.out).below (by omega) (Nat.le_refl _)) (Nat.le_refl _) _⟩
structure Pc where
 a : Option Addr
 l : Nat
 c : Nat
 b : List Int
def Pc.none : Pc := ⟨Option.none, 0, 0, []⟩
def Pc.val (p : Pc) : Value := .slice p.a p.l p.c
def Pc.ok (p : Pc) (w : World) : Prop := Bytes w p.a p.l p.b /\ p.l <= p.c /\ p.c <= 9223372036854775807
def pcv (P : List Pc) : Array Value := (P.map Pc.val).toArray
theorem pcs_list {w : World} {g : Nat} {t : TypeId} {fr : Nat × Nat} (P : List Pc) (hg : w.heap[g]? = some (.cells (pcv P) t fr)) (hP : ∀ p ∈ P, p.ok w) :
  Pcs w (some ⟨g, 0, Option.none⟩) P.length (fun i => (P.getD i Pc.none).a) (fun i => (P.getD i Pc.none).l) (fun i => (P.getD i Pc.none).c) (fun i => (P.getD i Pc.none).b) := by
 refine ⟨fun _ => ⟨g, 0, rfl, (Array.getElem?_eq_some_iff.1 hg).1, fun i hi => ?_⟩, fun i hi => ?_⟩
 ·rw [cell_of_row _ _ _ _ _ _ hg, Nat.zero_add]
  simp [pcv, hi, Pc.val]
 ·have := hP (P.getD i Pc.none) (by simp [hi])
  exact this
theorem pieces_list (P : List Pc) (g n : Nat) (X : List Int) (t : TypeId) (fr : Nat × Nat) (w : World) (hT : Tabs w) (hg : w.heap[g]? = some (.cells (pcv P) t fr)) (hP : ∀ p ∈ P, p.ok w) (hn : P.length = n) (hn' : n <= 1000) (hX : joinTo (fun i => (P.getD i Pc.none).b) n = X) (hl : X.length <= 900000) :
  Calls Tryd.prog 41 #[.slice (some ⟨g, 0, Option.none⟩) n n] w fun e w' => e = .returned (.agg (u8s (sha X))) /\ Below w.heap.size w w' := by
 subst hn
 subst hX
 exact pieces_any _ P.length P.length _ _ _ _ w hT (pcs_list P hg hP) hl (by unfold maxLen; omega)
set_option maxRecDepth 20000 in
set_option maxHeartbeats 400000 in
theorem rounds_any (w : World) :
  Calls Tryd.prog 86 #[] w fun e w' => e = .returned (.agg (u32s kk)) /\ Below w.heap.size w w' := by
 have HR : Hid ((w.alloc (.cells (fil [] 64) 163)).heap[w.heap.size]? = some (.cells (fil [] 64) 163 (0, 0)) /\ Below w.heap.size w (w.alloc (.cells (fil [] 64) 163))) := ⟨al_at rfl, (Below.refl _ _).alloc (Nat.le_refl _) _⟩
 have HZ : Hid (fil [] 64 = #[.int .u32 0, .int .u32 0, .int .u32 0, .int .u32 0, .int .u32 0, .int .u32 0, .int .u32 0, .int .u32 0, .int .u32 0, .int .u32 0, .int .u32 0, .int .u32 0, .int .u32 0, .int .u32 0, .int .u32 0, .int .u32 0, .int .u32 0, .int .u32 0, .int .u32 0, .int .u32 0, .int .u32 0, .int .u32 0, .int .u32 0, .int .u32 0, .int .u32 0, .int .u32 0, .int .u32 0, .int .u32 0, .int .u32 0, .int .u32 0, .int .u32 0, .int .u32 0, .int .u32 0, .int .u32 0, .int .u32 0, .int .u32 0, .int .u32 0, .int .u32 0, .int .u32 0, .int .u32 0, .int .u32 0, .int .u32 0, .int .u32 0, .int .u32 0, .int .u32 0, .int .u32 0, .int .u32 0, .int .u32 0, .int .u32 0, .int .u32 0, .int .u32 0, .int .u32 0, .int .u32 0, .int .u32 0, .int .u32 0, .int .u32 0, .int .u32 0, .int .u32 0, .int .u32 0, .int .u32 0, .int .u32 0, .int .u32 0, .int .u32 0, .int .u32 0]) := rfl
 rw [HZ.out] at HR
 go_enter Tryd.func86, Tryd.ntmps86
 go_wp2_with (refine wpList_store_row rfl 163 (.tmp 0) (.tmp 1) rfl w.heap.size (u32s kk) rfl rfl 163 _ HR.out.1 (by kernel_rfl) (by rfl) (all_u32s kk) ?_)
 (try simp only [Exit.inBlock, Exit.then])
 refine bodyPost_ret (results_cell_row (p := 0) (ty := 163) rfl _ _ w.heap.size 163 (u32s kk) (0, 0) _ rfl (setRow_heap _ _ _ _ _ _ HR.out.1) Tryd.underlying163 rfl (by kernel_rfl)) rfl ?_
 exact ⟨rfl, below_setRow HR.out.2 (Nat.le_refl _) _⟩
end Go.Proofs.YthfobaeafapbnaaDoor.Dig
