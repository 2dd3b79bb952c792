/-
 What the Go methods Flush and Crash of package disk do, and Write where it refuses or stops, for every disk. And what follows it.
-/
import Derived.Test.YthfobaeafapbnaaDoorQ01
import Derived.Test.YthfobaeafapbnaaDoorQ10
set_option linter.unusedVariables false
set_option maxRecDepth 100000
namespace Go.Proofs.YthfobaeafapbnaaDoor.Disk.Plain
end Go.Proofs.YthfobaeafapbnaaDoor.Disk.Plain
namespace Go.Proofs.YthfobaeafapbnaaDoor.Disk
open Go.RowKit Go.Proofs.YthfobaeafapbnaaDoor.Plain Go.Proofs.YthfobaeafapbnaaDoor.Disk.Plain
set_option maxRecDepth 20000 in
set_option maxHeartbeats 2000000 in
theorem write_down (w : World) (D : Nat) (fp : Nat -> Prop) (d : Dk) (h : Is w D fp d) (i : Int) (a : Option Addr) (len cap : Nat) (hd : d.down = true) :
  Calls Tryd.prog 40 #[.pointer (some ⟨D, 0, none⟩), .int .i64 i, .slice a len cap] w fun e w' => e = .returned (.int .i64 13) /\ w = w' := by
 obtain ⟨P, uv, ov, h1, h2⟩ := h
 have H := ready_any w D P uv ov d h1
 rw [show rdy d = 13 by simp [rdy, hd]] at H
 have HR : Box _ := ⟨H⟩
 clear H h1 h2 hd
 go_enter Tryd.func40, Tryd.ntmps40
 go_wp2_with (go_at_call 57; refine HR.out.mono ?_; rintro e w' ⟨rfl, rfl⟩)
 go_ret
 exact ⟨rfl, rfl⟩
set_option maxRecDepth 20000 in
set_option maxHeartbeats 2000000 in
theorem write_stop (w : World) (D : Nat) (fp : Nat -> Prop) (d : Dk) (h : Is w D fp d) (i : Int) (a : Option Addr) (len cap : Nat) (hd : d.down = false) (hf : fit d i len = 0) (hs : d.st = true) (hl : d.left = 0) :
  Calls Tryd.prog 40 #[.pointer (some ⟨D, 0, none⟩), .int .i64 i, .slice a len cap] w fun e w' => e = .returned (.int .i64 13) /\ Nx D fp w w' { d with down := true } := by
 obtain ⟨P, uv, ov, h1, h2⟩ := h
 have H := ready_any w D P uv ov d h1
 rw [show rdy d = 0 by simp [rdy, hd]] at H
 have HR : Box _ := ⟨H⟩
 have H2 := fits_any w D P uv ov d h1 i a len cap
 rw [hf] at H2
 have HH : Box _ := ⟨H2⟩
 obtain ⟨-, -, -, c3, c4, c5, fz⟩ := h1.cells
 have f3 := fz 3
 have HX : Box _ := ⟨h1.set3 h2 true⟩
 rw [hs] at c4
 rw [hl] at c5
 clear H H2 h1 h2 hd hf hs hl fz
 go_enter Tryd.func40, Tryd.ntmps40
 go_wp2_with (first
  | (go_at_call 57; refine HR.out.mono ?_; rintro e w' ⟨rfl, rfl⟩)
  | (go_at_call 58; refine HH.out.mono ?_; rintro e w' ⟨rfl, rfl⟩))
 go_ret
 exact ⟨rfl, HX.out⟩
def upd (pl : Nat -> List Int) (p : Nat) (b : List Int) : Nat -> List Int := fun k => if k = p then b else pl k
def lay (L : List (Nat × List Int)) (pl : Nat -> List Int) : Nat -> List Int := L.foldl (fun f x => upd f x.1 x.2) pl
theorem lay_snoc (L : List (Nat × List Int)) (x : Nat × List Int) (pl : Nat -> List Int) : lay (L ++ [x]) pl = upd (lay L pl) x.1 x.2 := by simp [lay]
theorem splice_get {α : Type} (L vs : List α) (o k : Nat) (h : o + vs.length <= L.length) : (splice L o vs)[k]? = if o <= k /\ k < o + vs.length then vs[k - o]? else L[k]? := by
 unfold splice
 have h1 : (L.take o).length = o := by simp; omega
 by_cases hk : k < o
 ·rw [List.getElem?_append_left (by omega), List.getElem?_take, if_pos hk, if_neg (by omega)]
 ·by_cases hk2 : k < o + vs.length
  ·rw [List.getElem?_append_right (by omega), h1, List.getElem?_append_left (by omega), if_pos ⟨by omega, hk2⟩]
  ·rw [List.getElem?_append_right (by omega), List.getElem?_append_right (by omega), h1, if_neg (by omega), List.getElem?_drop]
   congr 1
   omega
theorem pls_upd {cs : Array Value} {n p : Nat} {pl : Nat -> List Int} {b : List Int} (h : Pls cs n pl) (hp : p < n) (hb : b.length = 192) : Pls (splice cs.toList (p * 192) (u8s b).toList).toArray n (upd pl p b) := by
 have hl : (u8s b).toList.length = 192 := by rw [Array.length_toList, size_u8s, hb]
 have hfit : p * 192 + 192 <= cs.size := by
  rw [h.1, Nat.mul_comm, <- Nat.mul_succ]
  exact Nat.mul_le_mul_left _ hp
 refine ⟨?_, fun i hi j hj => ?_⟩
 ·simp only [List.size_toArray, splice, List.length_append, List.length_take, List.length_drop, hl, Array.length_toList]
  have := h.1
  omega
 ·rw [List.getElem?_toArray, splice_get _ _ _ _ (by rw [hl, Array.length_toList]; exact hfit), hl]
  by_cases he : i = p
  ·subst he
   rw [if_pos (by omega)]
   have e : 192 * i + j - i * 192 = j := by omega
   rw [e]
   simp only [upd, if_true]
   simp [u8s, List.getD, show j < b.length by omega]
  ·have hne : ¬ (p * 192 <= 192 * i + j /\ 192 * i + j < p * 192 + 192) := by
    intro ⟨h1, h2⟩
    apply he
    omega
   rw [if_neg hne, Array.getElem?_toList, h.2 i hi j hj]
   simp [upd, he]
structure Lay (wd : World) (D P Bx n : Nat) (p : Nat) (b : List Int) : Prop where
 c0 : wd.cell? ⟨D, 0, none⟩ = some (.slice (some ⟨P, 0, none⟩) n n)
 n0 : D ≠ P
 cx : wd.cell? ⟨Bx, 0, none⟩ = some (.int .i64 (p : Int))
 rx : wd.rangeAt Bx 1 (b.map (Value.int .u8))
 nx : Bx ≠ P
 iz : (Tryd.prog.info? 121).map (·.size) = some (b.map (Value.int .u8)).length
 iy : (Tryd.prog.info? 121).map (·.size) = some (u8s b).size
 th : wd.there P (p * 192) (u8s b).size
theorem Lay.drew {w wd : World} {D P Bx n : Nat} {p : Nat} {b : List Int} (h : Lay w D P Bx n p b) (hwd : wd = w.drew) : Lay wd D P Bx n p b := by
 subst hwd
 exact ⟨h.c0, h.n0, h.cx, h.rx, h.nx, h.iz, h.iy, h.th⟩
theorem At.layAt {w wx : World} {D P : Nat} {uv ov : Value} {d : Dk} (h : At w D P uv ov d) (hb : Below w.heap.size w wx) (p : Nat) (b : List Int) (hp : p < d.n) (hl : b.length = 192) (hx : wx.heap[w.heap.size]? = some (.cells (wc (p, b)).toArray 123 (0, 0))) : Lay wx D P w.heap.size d.n p b := by
 have h2 := h.below hb
 obtain ⟨cs, hP, hPs⟩ := h2.hp
 have hPl := h.lt P (.inr (.inl rfl))
 obtain ⟨x1, x2⟩ := range_wc hx
 have hfit : p * 192 + 192 <= cs.size := by
  rw [hPs.1, Nat.mul_comm, <- Nat.mul_succ]
  exact Nat.mul_le_mul_left _ hp
 exact ⟨h2.cells.1, h.neP, x1, x2, by omega, by rw [List.length_map, hl]; exact info79, by rw [size_u8s, hl]; exact info79, there_row hP (by rw [size_u8s, hl]; exact hfit)⟩
theorem At.laid {w wd : World} {D P : Nat} {uv ov : Value} {d : Dk} (h : At w D P uv ov d) (hb : Below w.heap.size w wd) (p : Nat) (b : List Int) (hp : p < d.n) (hl : b.length = 192 /\ Byt b) :
  At (wd.setCells P (p * 192) (u8s b).toList) D P uv ov { d with pl := upd d.pl p b } /\ Turned (foot D P uv ov) w (wd.setCells P (p * 192) (u8s b).toList) := by
 have h2 := h.below hb
 obtain ⟨cs, hP, hPs⟩ := h2.hp
 have hfit : p * 192 + 192 <= cs.size := by
  rw [hPs.1, Nat.mul_comm, <- Nat.mul_succ]
  exact Nat.mul_le_mul_left _ hp
 have hc := heap_setCells P _ (u8s b).toList (p * 192) wd cs hP (by rw [Array.length_toList, size_u8s, hl.1]; exact hfit)
 have ho : ∀ k, k ≠ P -> (wd.setCells P (p * 192) (u8s b).toList).heap[k]? = wd.heap[k]? := fun k hk => heap_setCells_other P k hk _ _ _
 have hbt := but_setCells P (u8s b).toList (p * 192) wd wd (But.refl _ _)
 refine ⟨⟨by rw [ho D h.neP]; exact h2.hd, ⟨_, hc, pls_upd hPs hp hl.1⟩, fun i => ?_, h.hn, own_same h2.hu (fun k hk => ho k (ne_blk h.neU.2 hk)), h.huw, own_same h2.ho (fun k hk => ho k (ne_blk h.neO.2 hk)), h.neP, h.neU, h.neO, h.neUO⟩, ⟨hbt.os.trans hb.os, hbt.tape.trans hb.tape, hbt.output.trans hb.output, Nat.le_trans hb.size hbt.size, fun k hk hn => ?_⟩⟩
 ·simp only [upd]
  split
  ·exact hl
  ·exact h.hpl i
 ·rw [ho k (fun e => hn (.inr (.inl e)))]
  exact hb.block k hk
theorem At.noway {w : World} {D P : Nat} {uv ov : Value} {d : Dk} (h : At w D P uv ov d) : At (w.setCell ⟨D, 1, none⟩ (.slice none 0 0)) D P (.slice none 0 0) ov { d with uw := [] } /\ Turned (foot D P uv ov) w (w.setCell ⟨D, 1, none⟩ (.slice none 0 0)) /\ ∀ k, foot D P (.slice none 0 0) ov k -> foot D P uv ov k := by
 obtain ⟨cs, hP, hPs⟩ := h.hp
 refine ⟨⟨heap_setCell_same w D 1 _ _ _ h.hd, ⟨cs, by rw [heap_setCell_other w ⟨D, 1, none⟩ P _ (Ne.symm h.neP)]; exact hP, hPs⟩, h.hpl, h.hn, World.ownsRow_nil _ _ _ _, fun x hx => by simp at hx, own_same h.ho (fun k hk => heap_setCell_other w ⟨D, 1, none⟩ k _ (ne_blk h.neO.1 hk)), h.neP, by simp [Value.ownBlock], h.neO, .inl rfl⟩, turned_set (Turned.refl _ _) (.inl rfl) _, ?_⟩
 rintro k (rfl | rfl | hk | hk)
 ·exact .inl rfl
 ·exact .inr (.inl rfl)
 ·simp [Value.ownBlock] at hk
 ·exact .inr (.inr (.inr hk))
end Go.Proofs.YthfobaeafapbnaaDoor.Disk
namespace Go.Proofs.YthfobaeafapbnaaDoor.Disk.Plain
end Go.Proofs.YthfobaeafapbnaaDoor.Disk.Plain
namespace Go.Proofs.YthfobaeafapbnaaDoor.Disk
open Go.RowKit Go.Proofs.YthfobaeafapbnaaDoor.Plain Go.Proofs.YthfobaeafapbnaaDoor.Disk.Plain
def Bools (w : World) (a : Option Addr) (len : Nat) (K : List Bool) : Prop := K.length = len /\ (0 < len -> ∃ b off, a = some ⟨b, off, none⟩ /\ b < w.heap.size /\ ∀ i, i < len -> w.cell? ⟨b, off + i, none⟩ = some (.bool (K.getD i false)))
theorem Bools.turned {fp : Nat -> Prop} {w w' : World} {a : Option Addr} {len : Nat} {K : List Bool} (h : Bools w a len K) (t : Turned fp w w') (hn : ∀ ad, a = some ad -> 0 < len -> ¬ fp ad.block) : Bools w' a len K := by
 refine ⟨h.1, fun h0 => ?_⟩
 obtain ⟨b, off, rfl, hb, hc⟩ := h.2 h0
 exact ⟨b, off, rfl, Nat.lt_of_lt_of_le hb t.size, fun i hi => t.cell (hc i hi) (hn ⟨b, off, none⟩ rfl h0)⟩
def kp (L : List (Nat × List Int)) (K : List Bool) : List (Nat × List Int) := (L.zipIdx.filter (fun x => K.getD x.2 false)).map Prod.fst
theorem kp_succ (L : List (Nat × List Int)) (K : List Bool) (k : Nat) (h : k < L.length) : kp (L.take (k + 1)) K = kp (L.take k) K ++ (if K.getD k false then [L[k]] else []) := by
 unfold kp
 rw [<- List.take_append_getElem h, List.zipIdx_append, List.filter_append, List.map_append]
 congr 1
 have : (L.take k).length = k := by simp; omega
 simp only [this, Nat.zero_add, List.zipIdx_cons, List.zipIdx_nil, List.filter_cons, List.filter_nil]
 split <;> simp
def crPl (d : Dk) (K : List Bool) (k : Nat) : Dk := { d with pl := lay (kp (d.uw.take k) K) d.pl }
theorem crPl_no (d : Dk) (K : List Bool) (k : Nat) (h : k < d.uw.length) (hk : K.getD k false = false) : crPl d K (k + 1) = crPl d K k := by
 simp only [crPl]
 rw [kp_succ _ _ _ h, hk]
 simp
theorem crPl_yes (d : Dk) (K : List Bool) (k : Nat) (h : k < d.uw.length) (hk : K.getD k false = true) : ({ crPl d K k with pl := upd (crPl d K k).pl d.uw[k].1 d.uw[k].2 } : Dk) = crPl d K (k + 1) := by
 simp only [crPl]
 rw [kp_succ _ _ _ h, if_pos hk, lay_snoc]
theorem At.set3a {w : World} {D P : Nat} {uv ov : Value} {d : Dk} (h : At w D P uv ov d) (b : Bool) : At (w.setCell ⟨D, 3, none⟩ (.bool b)) D P uv ov { d with down := b } /\ Turned (foot D P uv ov) w (w.setCell ⟨D, 3, none⟩ (.bool b)) :=
 ⟨h.put b d.st d.left (fun k hk => by rw [heap_setCell_other _ ⟨D, 3, none⟩ k _ hk]) (heap_setCell_same w D 3 _ _ _ h.hd), turned_set (Turned.refl _ _) (.inl rfl) _⟩
def crOk (d : Dk) (K : List Bool) : Dk := { d with pl := lay (kp d.uw K) d.pl, uw := [], down := false, st := false, left := 0 }
set_option maxRecDepth 20000 in
set_option maxHeartbeats 4000000 in
theorem crash_any (w : World) (D : Nat) (fp : Nat -> Prop) (d : Dk) (h : Is w D fp d) (ka : Option Addr) (kl kc : Nat) (K : List Bool) (hK : Bools w ka kl K) (hKn : ∀ ad, ka = some ad -> 0 < kl -> ¬ fp ad.block) (hu : d.uw.length < 1000000) (hkl : kl <= maxLen) :
  Calls Tryd.prog 28 #[.pointer (some ⟨D, 0, none⟩), .slice ka kl kc] w fun e w' => e = .returned (.tuple #[]) /\ Nx D fp w w' (crOk d K) := by
 obtain ⟨P, uv, ov, h1, h2⟩ := h
 obtain ⟨a, cap, rfl⟩ := own_form2 h1.hu
 obtain ⟨c0, c1, -, -, -, -, fz⟩ := h1.cells
 have HF : Box (∀ k, foot D P (.slice a d.uw.length cap) ov k -> fp k) := ⟨h2⟩
 have HB : Box (∀ wx, Turned (foot D P (.slice a d.uw.length cap) ov) w wx -> Bools wx ka kl K) := ⟨fun wx ht => hK.turned ht (fun ad e h0 hf => hKn ad e h0 (h2 _ hf))⟩
 have HA : Box (At w D P (.slice a d.uw.length cap) ov (crPl d K 0) /\ Turned (foot D P (.slice a d.uw.length cap) ov) w w) := ⟨h1, Turned.refl _ _⟩
 have hu2 : d.uw.length < 9223372036854775807 := by omega
 have hkl2 : kl < 9223372036854775808 := by unfold maxLen at hkl; omega
 clear h1 h2 hu fz hK hKn hkl
 go_enter Tryd.func28, Tryd.ntmps28
 go_wp2
 go_loopw [13] (fun i wr => ∃ k : Nat, k <= d.uw.length /\ i = .int .i64 k /\ Box (At wr D P (.slice a d.uw.length cap) ov (crPl d K k) /\ Turned (foot D P (.slice a d.uw.length cap) ov) w wr)) (fun i _ => d.uw.length - (intOf i).toNat)
 case atStart => exact ⟨0, Nat.zero_le _, rfl, HA⟩
 case round =>
  clear HA c0 c1
  obtain ⟨k, hk, rfl, HK⟩ := hrel
  by_cases hlt : k < d.uw.length
  ·have hgood := HK.out.1.huw d.uw[k] (List.getElem_mem hlt)
   obtain ⟨g, rfl, hg, hr⟩ := At.ways (d := crPl d K k) HK.out.1 (show 0 < d.uw.length by omega)
   have hrk : Box (wr.rangeAt g (k * 193) (wc d.uw[k])) := ⟨hr k hlt⟩
   have HE := crPl_yes d K k hlt
   have HE0 : Box (K.getD k false = false -> crPl d K (k + 1) = crPl d K k) := ⟨crPl_no d K k hlt⟩
   obtain ⟨x, hx⟩ : ∃ x, d.uw[k] = x := ⟨_, rfl⟩
   rw [hx] at hgood hrk HE
   obtain ⟨p, b⟩ := x
   replace HE : Box (K.getD k false = true -> ({ crPl d K k with pl := upd (crPl d K k).pl p b } : Dk) = crPl d K (k + 1)) := ⟨HE⟩
   have HI : Box ((Tryd.prog.info? 123).map (·.size) = some (wc (p, b)).length) := ⟨by rw [length_wc _ hgood.2.1]; exact info84⟩
   have HI2 : Box ((Tryd.prog.info? 123).map (·.size) = some (wc (p, b)).toArray.size) := ⟨by rw [List.size_toArray, length_wc _ hgood.2.1]; exact info84⟩
   have hz : (wc (0, z192)).toArray.size = (wc (p, b)).length := by rw [length_wc _ hgood.2.1]; exact length_wc _ length_z192
   have HN : Box _ := ⟨laid_new wr (wc (0, z192)).toArray 123 (wc (p, b)) hz⟩
   have HT : Box ((wr.alloc (.cells (wc (0, z192)).toArray 123)).there wr.heap.size 0 (wc (p, b)).toArray.size) := ⟨there_row (al_at rfl) (by rw [hz]; simp)⟩
   have HLy : Box (Lay ((wr.alloc (.cells (wc (0, z192)).toArray 123)).setCells wr.heap.size 0 (wc (p, b))) D P wr.heap.size d.n p b) := ⟨HK.out.1.layAt HN.out.1 p b hgood.1 hgood.2.1 HN.out.2.2⟩
   have HLd : Box _ := ⟨HK.out.1.laid HN.out.1.drew p b hgood.1 hgood.2⟩
   have HPn : Box (p < d.n) := ⟨hgood.1⟩
   have HTn : Box (Turned (foot D P (.slice (some ⟨g, 0, none⟩) d.uw.length cap) ov) w wr) := ⟨HK.out.2⟩
   have HKc : Box (Bools ((wr.alloc (.cells (wc (0, z192)).toArray 123)).setCells wr.heap.size 0 (wc (p, b))) ka kl K) := ⟨HB.out _ (HTn.out.trans (Turned.of_below (fp := fun _ => False) HN.out.1) (fun _ h => h.elim))⟩
   have HAt : Box (At wr D P (.slice (some ⟨g, 0, none⟩) d.uw.length cap) ov (crPl d K k)) := ⟨HK.out.1⟩
   clear HK hgood hr hg hx hz
   by_cases hkk : k < kl
   ·obtain ⟨kb, ko, rfl, hkb, hkc⟩ := HKc.out.2 (by omega)
    have ck := hkc k hkk
    clear hkb hkc
    cases hKk : K.getD k false
    case false =>
     rw [hKk] at ck
     go_wp2_with (first
      | (refine wpList_load_mid rfl 123 _ rfl g (k * 193) rfl (wc (p, b)) _ hrk.out Tryd.underlying123 rfl HI.out ?_)
      | (refine wpList_run rfl _ _ (exec_alloc 123 rfl _ zero84) ?_)
      | (refine wpList_store_mid rfl 123 _ _ rfl wr.heap.size 0 (wc (p, b)).toArray rfl rfl HT.out HI2.out (all_oneCell_toArray (one_wc _)) ?_; generalize (wr.alloc (.cells (wc (0, z192)).toArray 123)).setCells wr.heap.size 0 (wc (p, b)).toArray.toList = wx at HN HLy HLd HKc ck ⊢))
     exact ⟨⟨k + 1, by omega, by simp, ⟨by rw [HE0.out hKk]; exact HAt.out.below HN.out.1, HTn.out.trans (Turned.of_below (fp := fun _ => False) HN.out.1) (fun _ h => h.elim)⟩⟩, by simp [intOf]; omega⟩
    case true =>
     rw [hKk] at ck
     go_upto_region 5 with (first
      | (refine wpList_load_mid rfl 123 _ rfl g (k * 193) rfl (wc (p, b)) _ hrk.out Tryd.underlying123 rfl HI.out ?_)
      | (refine wpList_run rfl _ _ (exec_alloc 123 rfl _ zero84) ?_)
      | (refine wpList_store_mid rfl 123 _ _ rfl wr.heap.size 0 (wc (p, b)).toArray rfl rfl HT.out HI2.out (all_oneCell_toArray (one_wc _)) ?_; generalize (wr.alloc (.cells (wc (0, z192)).toArray 123)).setCells wr.heap.size 0 (wc (p, b)).toArray.toList = wx at HN HLy HLd HKc ck ⊢))
     rename_i KK ax
     try simp only [Act.put, pC, pD, pE, pF, pG, pH]
     refine begin_but (P) (by kernel_rfl) (fun wd hwd => ?_)
     have GF : Box (Lay wd D P wr.heap.size d.n p b) := ⟨HLy.out.drew hwd⟩
     have hpn : p < d.n := HPn.out
     refine take_but (i := 0) (v := ?_) rfl (by kernel_rfl) (by kernel_rfl) (by kernel_rfl) (fun _ _ _ h => h) (by rfl) ?_ ?_
     rotate_left
     ·intro w' hB; clear hB; go_simp <;> with_reducible rfl
     try simp only [Act.put, pC, pD, pE, pF, pG]
     refine take_but (i := 1) (v := ?_) rfl (by kernel_rfl) (by kernel_rfl) (by kernel_rfl) (fun _ _ _ h => h) (by rfl) ?_ ?_
     rotate_left
     ·intro w' hB; clear hB; go_simp <;> with_reducible rfl
     try simp only [Act.put, pC, pD, pE, pF, pG, pH]
     refine take_but (i := 2) (v := ?_) rfl (by kernel_rfl) (by kernel_rfl) (by kernel_rfl) (fun _ _ _ h => h) (by rfl) ?_ ?_
     rotate_left
     ·intro w' hB; clear hB; go_simp <;> with_reducible rfl
     try simp only [Act.put, pC, pD, pE, pF, pG, pH]
     refine take_but (i := 3) (v := .slice (some ⟨P, 0, none⟩) d.n d.n) rfl (by kernel_rfl) (by kernel_rfl) (by kernel_rfl) (fun _ _ _ h => h) (by rfl) (fun w' hB => exec_load1 72 _ _ rfl Tryd.underlying72 rfl _ rfl _ (but_cell hB GF.out.c0 GF.out.n0)) ?_
     try simp only [Act.put, pC, pD, pE, pF, pG, pH]
     refine take_but (i := 4) (v := ?_) rfl (by kernel_rfl) (by kernel_rfl) (by kernel_rfl) (fun _ _ _ h => h) (by rfl) ?_ ?_
     rotate_left
     ·intro w' hB; clear hB; go_simp <;> with_reducible rfl
     try simp only [Act.put, pC, pD, pE, pF, pG, pH]
     refine take_but (i := 5) (v := .int .i64 (p : Int)) rfl (by kernel_rfl) (by kernel_rfl) (by kernel_rfl) (fun _ _ _ h => h) (by rfl) (fun w' hB => exec_load1 3 _ _ rfl Tryd.underlying3 rfl _ rfl _ (but_cell hB GF.out.cx GF.out.nx)) ?_
     try simp only [Act.put, pC, pD, pE, pF, pG, pH]
     refine take_but (i := 6) (v := ?_) rfl (by kernel_rfl) (by kernel_rfl) (by kernel_rfl) (fun _ _ _ h => h) (by rfl) ?_ ?_
     rotate_left
     ·intro w' hB; clear hB; go_simp <;> with_reducible rfl
     try simp only [Act.put, pC, pD, pE, pF, pG, pH]
     refine take_but (i := 7) (v := .agg (u8s b)) rfl (by kernel_rfl) (by kernel_rfl) (by kernel_rfl) (fun _ _ _ h => h) (by rfl) (fun w' hB => exec_load_mid 121 _ _ rfl Tryd.underlying121 rfl wr.heap.size 1 rfl (b.map (Value.int .u8)) GF.out.iz (but_range hB GF.out.rx GF.out.nx)) ?_
     try simp only [Act.put, pC, pD, pE, pF, pG, pH]
     refine take_but (i := 8) (v := ?_) rfl (by kernel_rfl) (by kernel_rfl) (by kernel_rfl) (fun _ _ _ h => h) (by rfl) ?_ ?_
     rotate_left
     ·intro w' hB; clear hB; go_simp <;> with_reducible rfl
     try simp only [Act.put, pC, pD, pE, pF, pG, pH]
     refine last_but (i := 9) rfl (by kernel_rfl) (by rfl) (by kernel_rfl) 121 _ _ rfl (p * 192) (u8s b) rfl rfl GF.out.th GF.out.iy (all_u8s _) ?_
     show KK _ _
     refine ax _ _ ?_
     try simp only [Act.put, pF, pG, pH]
     have HL2 : Box _ := ⟨HLd.out⟩
     rw [HE.out hKk] at HL2
     rw [hwd]
     generalize (wx.drew.setCells P (p * 192) (u8s b).toList) = wy at HL2 ⊢
     clear ax HLd HE HLy GF HT HN HI HI2 hrk hwd ck HKc HB
     go_wp2
     go_roundw
     case rel => exact ⟨k + 1, by omega, by simp, ⟨HL2.out.1, HTn.out.trans HL2.out.2 (fun _ hk => .inl hk)⟩⟩
     case measure => simp [intOf]; omega
   ·have hKk : K.getD k false = false := by
     have := HKc.out.1
     simp [List.getD, List.getElem?_eq_none (show K.length <= k by omega)]
    go_wp2_with (first
     | (refine wpList_load_mid rfl 123 _ rfl g (k * 193) rfl (wc (p, b)) _ hrk.out Tryd.underlying123 rfl HI.out ?_)
     | (refine wpList_run rfl _ _ (exec_alloc 123 rfl _ zero84) ?_)
     | (refine wpList_store_mid rfl 123 _ _ rfl wr.heap.size 0 (wc (p, b)).toArray rfl rfl HT.out HI2.out (all_oneCell_toArray (one_wc _)) ?_; generalize (wr.alloc (.cells (wc (0, z192)).toArray 123)).setCells wr.heap.size 0 (wc (p, b)).toArray.toList = wx at HN HLy HLd HKc ⊢))
    exact ⟨⟨k + 1, by omega, by simp, ⟨by rw [HE0.out hKk]; exact HAt.out.below HN.out.1, HTn.out.trans (Turned.of_below (fp := fun _ => False) HN.out.1) (fun _ h => h.elim)⟩⟩, by simp [intOf]; omega⟩
  ·obtain rfl : k = d.uw.length := by omega
   have HK2 : Box (At wr D P (.slice a d.uw.length cap) ov (crPl d K d.uw.length)) := ⟨HK.out.1⟩
   obtain ⟨-, c1, -, c3, -, -, fz⟩ := HK2.out.cells
   have f1 := fz 1
   have f3 := fz 3
   have HW : Box _ := ⟨HK2.out.noway⟩
   have HW3 : Box _ := ⟨HW.out.1.set3a false⟩
   clear fz
   go_wp2_with (go_at_call 26; refine (stop_any _ D _ _ ⟨P, _, ov, HW3.out.1, fun _ hk => hk⟩ (-1)).mono ?_; rintro e w4 ⟨rfl, hn4⟩; have HN4 : Box _ := ⟨hn4⟩; clear hn4)
   go_end0
   refine ⟨rfl, ?_⟩
   have hfl : ({ crPl d K d.uw.length with uw := [], down := false, st := decide (0 <= (-1 : Int)), left := max (-1) 0 } : Dk) = crOk d K := by simp [crOk, crPl]; omega
   rw [<- hfl]
   obtain ⟨v1, v2, v3⟩ := HW.out
   have t1 := HK.out.2.trans v2 (fun _ hk => .inl hk)
   have t2 := t1.trans HW3.out.2 (fun k hk => .inl (v3 k hk))
   refine Nx.trans (fp' := foot D P (.slice none 0 0) ov) (d' := d) ⟨t2.os, t2.tape, t2.output, t2.size, fun k hk hn => t2.block k hk (fun hf => hn (HF.out k hf))⟩ (fun k hk => .inl (HF.out k (v3 k hk))) HN4.out
end Go.Proofs.YthfobaeafapbnaaDoor.Disk
namespace Go.Proofs.YthfobaeafapbnaaDoor.Disk.Plain
end Go.Proofs.YthfobaeafapbnaaDoor.Disk.Plain
namespace Go.Proofs.YthfobaeafapbnaaDoor.Disk
open Go.RowKit Go.Proofs.YthfobaeafapbnaaDoor.Plain Go.Proofs.YthfobaeafapbnaaDoor.Disk.Plain
theorem own_empty (w : World) (e : TypeId) (sz : Nat) : (w.alloc (.cells #[] e)).ownsRow 0 e sz (.slice (some ⟨w.heap.size, 0, none⟩) 0 0) 0 [] := World.ownsRow_made w #[] 0 (Nat.zero_le _) (by unfold maxLen; omega) (by simp)
theorem eqIn_nil {P : Program} (w : World) (n : Nat) (t e : TypeId) (a : Option Addr) (l c : Nat) (h : P.underlying t = some (.slice e)) : (Op.equalIn (n + 1) t (.slice a l c) (.slice none 0 0)).run P w = .ok a.isNone w := by
 cases a <;> simp [Op.equalIn, run_underlying h]
theorem eql_nil {P : Program} (w : World) (t e : TypeId) (a : Option Addr) (l c : Nat) (h : P.underlying t = some (.slice e)) : (binOp .eql t (.slice a l c) (.slice none 0 0)).run P w = .ok (.bool a.isNone) w := by
 have h1 : (Op.equal t (.slice a l c) (.slice none 0 0)).run P w = .ok a.isNone w := eqIn_nil w 9999 t e a l c h
 simp only [binOp]
 simp [h1]
theorem below_grown {w w2 : World} {o : Obj} {row : Option Nat} (hg : (w.alloc o).grownBy w2 row) (hr : ∀ k, row = some k -> w.heap.size <= k) : Below w.heap.size w w2 :=
 ((Below.refl _ w).alloc (Nat.le_refl _) o).grown hg (by simp) hr
set_option maxRecDepth 20000 in
set_option maxHeartbeats 1000000 in
theorem clone_ops (w : World) (v : Value) (L : List (Int × Int)) (h : w.ownsRow 0 131 2 v L.length (ocs L)) (hl : L.length < 1000000) :
  Calls Tryd.prog 51 #[v] w fun e w' => ∃ v', e = .returned v' /\ w'.ownsRow 0 131 2 v' L.length (ocs L) /\ Below w.heap.size w w' /\ ∀ k, v'.ownBlock = some k -> w.heap.size <= k := by
 have HH : Box (w.ownsRow 0 131 2 v L.length (ocs L)) := ⟨h⟩
 have HB : Box ((0 + L.length) * 16 <= 140737488355328) := ⟨by omega⟩
 have HN : Box ((ocs L).length = L.length * 2) := ⟨by rw [ocs, flat_length _ 2 (ocs_all L), List.length_map]⟩
 have HO : Box (∀ u ∈ ocs L, u.oneCell' = true) := ⟨fun u hu => by
  obtain ⟨l, hl, hu⟩ := List.mem_flatten.1 hu
  obtain ⟨x, _, rfl⟩ := List.mem_map.1 hl
  exact one_oc x u hu⟩
 clear hl
 rcases h.2 with ⟨rfl, h0⟩ | ⟨g, cap, cur, rfl, _, hg, _⟩
 ·have hq : ∀ x, (binOp .eql 74 (.slice none 0 0) (.slice none 0 0)).run Tryd.prog x = .ok (.bool true) x := fun x => eql_nil x 74 _ none 0 0 Tryd.underlying74
  clear h
  go_enter Tryd.func51, Tryd.ntmps51
  go_wp2
  go_ret
  exact ⟨_, rfl, HH.out, Below.refl _ _, fun k hk => by simp [Value.ownBlock] at hk⟩
 ·have HC : Box (∀ j u, (ocs L)[j]? = some u -> w.cell? ((⟨g, 0, none⟩ : Addr).add j) = some u) := ⟨HH.out.cells (g := g) rfl⟩
  have hq : ∀ x, (binOp .eql 74 (.slice (some ⟨g, 0, none⟩) L.length cap) (.slice none 0 0)).run Tryd.prog x = .ok (.bool false) x := fun x => eql_nil x 74 _ _ _ _ Tryd.underlying74
  clear h hg
  go_enter Tryd.func51, Tryd.ntmps51
  go_wp2_with (at_builtin; refine wpList_app2 rfl _ _ 74 rfl 131 2 16 (.agg (oc (0, 0)).toArray) Tryd.underlying74 info75 rfl (by decide) _ 0 [] rfl (own_empty w _ 2) ⟨g, 0, none⟩ L.length cap (ocs L) rfl HN.out (fun j u hj => cell_al _ (HC.out j u hj)) HO.out HB.out (by decide) ?_; intro v' w2 hown hgr hblk; have HX : Box (_ /\ _ /\ _) := ⟨hown, hgr, hblk⟩; clear hown hgr hblk)
  go_ret
  obtain ⟨x1, x2, x3⟩ := HX.out
  rw [Nat.zero_add] at x1
  have hz : ∀ k, Value.ownBlock (.slice (some ⟨w.heap.size, 0, none⟩) 0 0) = some k -> w.heap.size <= k := fun k hk => by simp [Value.ownBlock] at hk; omega
  exact ⟨_, rfl, x1, below_grown x2 hz, fun k hk => (x3 k hk).elim (hz k) (fun h => by simp at h; omega)⟩
set_option maxRecDepth 20000 in
set_option maxHeartbeats 1000000 in
theorem clone_bytes (w : World) (b off n cap : Nat) (B : List Int) (h : w.rangeAt b off (B.map (Value.int .u8))) (hB : B.length = n) (hl : n < 1000000) :
  Calls Tryd.prog 49 #[.slice (some ⟨b, off, none⟩) n cap] w fun e w' => ∃ v', e = .returned v' /\ w'.ownsRow 0 5 1 v' n (B.map (Value.int .u8)) /\ Below w.heap.size w w' /\ ∀ k, v'.ownBlock = some k -> w.heap.size <= k := by
 have HB : Box ((0 + n) * 1 <= 140737488355328) := ⟨by omega⟩
 have HN : Box ((B.map (Value.int .u8)).length = n * 1) := ⟨by simp [hB]⟩
 have HO : Box (∀ u ∈ B.map (Value.int .u8), u.oneCell' = true) := ⟨ints_oneCell _ _⟩
 have HC : Box (∀ j u, (B.map (Value.int .u8))[j]? = some u -> w.cell? ((⟨b, off, none⟩ : Addr).add j) = some u) := ⟨fun j u hj => by rw [Addr.add_mid]; exact h j u hj⟩
 have hq : ∀ x, (binOp .eql 63 (.slice (some ⟨b, off, none⟩) n cap) (.slice none 0 0)).run Tryd.prog x = .ok (.bool false) x := fun x => eql_nil x 63 _ _ _ _ Tryd.underlying63
 clear h hl hB
 go_enter Tryd.func49, Tryd.ntmps49
 go_wp2_with (at_builtin; refine wpList_app2 rfl _ _ 63 rfl 5 1 1 (.int .u8 0) Tryd.underlying63 info5 rfl (by decide) _ 0 [] rfl (own_empty w _ 1) ⟨b, off, none⟩ n cap (B.map (Value.int .u8)) rfl HN.out (fun j u hj => cell_al _ (HC.out j u hj)) HO.out HB.out (by decide) ?_; intro v' w2 hown hgr hblk; have HX : Box (_ /\ _ /\ _) := ⟨hown, hgr, hblk⟩; clear hown hgr hblk)
 go_ret
 obtain ⟨x1, x2, x3⟩ := HX.out
 rw [Nat.zero_add] at x1
 have hz : ∀ k, Value.ownBlock (.slice (some ⟨w.heap.size, 0, none⟩) 0 0) = some k -> w.heap.size <= k := fun k hk => by simp [Value.ownBlock] at hk; omega
 exact ⟨_, rfl, x1, below_grown x2 hz, fun k hk => (x3 k hk).elim (hz k) (fun h => by simp at h; omega)⟩
set_option maxRecDepth 20000 in
set_option maxHeartbeats 1000000 in
theorem ops_any (w : World) (D P : Nat) (uv ov : Value) (d : Dk) (h : At w D P uv ov d) (hl : d.ops.length < 1000000) :
  Calls Tryd.prog 34 #[.pointer (some ⟨D, 0, none⟩)] w fun e w' => ∃ v', e = .returned v' /\ w'.ownsRow 0 131 2 v' d.ops.length (ocs d.ops) /\ Below w.heap.size w w' /\ ∀ k, v'.ownBlock = some k -> w.heap.size <= k := by
 obtain ⟨-, -, c2, -, -, -, -⟩ := h.cells
 have HC : Box _ := ⟨clone_ops w ov d.ops h.ho hl⟩
 clear h hl
 go_enter Tryd.func34, Tryd.ntmps34
 go_wp2_with (go_at_call 51; refine HC.out.mono ?_; rintro e w' ⟨v', rfl, h3⟩; have HX : Box _ := ⟨h3⟩; clear h3)
 go_ret
 exact ⟨_, rfl, HX.out⟩
end Go.Proofs.YthfobaeafapbnaaDoor.Disk
namespace Go.Proofs.YthfobaeafapbnaaDoor.Disk.Plain
end Go.Proofs.YthfobaeafapbnaaDoor.Disk.Plain
namespace Go.Proofs.YthfobaeafapbnaaDoor.Disk
open Go.RowKit Go.Proofs.YthfobaeafapbnaaDoor.Plain Go.Proofs.YthfobaeafapbnaaDoor.Disk.Plain
structure Cx (w0 w : World) (D : Nat) (fp : Nat -> Prop) (d : Dk) : Prop where
 is : Is w D fp d
 bel : Below w0.heap.size w0 w
 lo : ∀ k, fp k -> w0.heap.size <= k
 hi : ∀ k, fp k -> k < w.heap.size
structure Fol (w : World) (fp : Nat -> Prop) (w' : World) (fp' : Nat -> Prop) : Prop where
 t : Turned fp w w'
 k : ∀ k, k < w.heap.size -> ¬ fp k -> ¬ fp' k
theorem Cx.step {w0 w w' : World} {D : Nat} {fp : Nat -> Prop} {d : Dk} (h : Cx w0 w D fp d) (hb : Below w.heap.size w w') : Cx w0 w' D fp d :=
 ⟨h.is.below hb, below_to h.bel hb, h.lo, fun k hk => Nat.lt_of_lt_of_le (h.hi k hk) hb.size⟩
theorem Cx.nx {w0 w w' : World} {D : Nat} {fp : Nat -> Prop} {d d' : Dk} (h : Cx w0 w D fp d) (n : Nx D fp w w' d') : ∃ fp', Cx w0 w' D fp' d' /\ Fol w fp w' fp' := by
 obtain ⟨f, i, t, s⟩ := n
 refine ⟨_, ⟨i.cut, h.bel.trans (t.below h.bel.size h.lo), fun k hk => ?_, fun k hk => hk.2⟩, ⟨t, fun k hk hn hf => (s k hf.1).elim hn (fun h => by omega)⟩⟩
 rcases s k hk.1 with h1 | h1
 ·exact h.lo k h1
 ·exact Nat.le_trans h.bel.size h1
theorem cx_new {w w' : World} {n : Nat} (i : Is w' (w.heap.size + 1) (fun k => w.heap.size <= k) (dk0 n)) (b : Below w.heap.size w w') : ∃ fp, Cx w w' (w.heap.size + 1) fp (dk0 n) :=
 ⟨_, i.cut, b, fun k hk => hk.1, fun k hk => hk.2⟩
theorem new_cx (w : World) (n : Nat) (hn : 1 <= n /\ n <= 4096) : Calls Tryd.prog 5 #[.int .i64 (n : Int)] w fun e w' => e = .returned (.tuple #[.pointer (some ⟨w.heap.size + 1, 0, none⟩), .int .i64 0]) /\ ∃ fp, Cx w w' (w.heap.size + 1) fp (dk0 n) :=
 (new_any w n hn).mono fun e w' ⟨h1, h2, h3⟩ => ⟨h1, cx_new h2 h3⟩
theorem write_cx {w0 w : World} {D : Nat} {fp : Nat -> Prop} {d : Dk} (C : Cx w0 w D fp d) (i : Nat) (a : Option Addr) (cap : Nat) (B : List Int) (hB : Bytes w a 192 B) (hap : ∀ ad, a = some ad -> ¬ fp ad.block) (hd : d.down = false) (hi : i < d.n) (hst : d.st = true -> d.left ≠ 0) (hl : 0 <= d.left /\ d.left <= 9223372036854775807) (ho : d.ops.length < 1000000) (hu : d.uw.length < 1000000) :
  Calls Tryd.prog 40 #[.pointer (some ⟨D, 0, none⟩), .int .i64 (i : Int), .slice a 192 cap] w fun e w' => e = .returned (.int .i64 0) /\ ∃ fp', Cx w0 w' D fp' (wrOk d i B) /\ Fol w fp w' fp' :=
 (write_ok w D fp d C.is i a cap B hB hap hd hi hst hl ho hu).mono fun e w' ⟨h1, h2⟩ => ⟨h1, C.nx h2⟩
theorem size_cx {w0 w : World} {D : Nat} {fp : Nat -> Prop} {d : Dk} (C : Cx w0 w D fp d) : Calls Tryd.prog 20 #[.pointer (some ⟨D, 0, none⟩)] w fun e w' => e = .returned (.int .i64 (d.n : Int)) /\ w = w' := by
 obtain ⟨P, uv, ov, h1, _⟩ := C.is
 exact size_any w D P uv ov d h1
theorem pending_cx {w0 w : World} {D : Nat} {fp : Nat -> Prop} {d : Dk} (C : Cx w0 w D fp d) : Calls Tryd.prog 18 #[.pointer (some ⟨D, 0, none⟩)] w fun e w' => e = .returned (.int .i64 (d.uw.length : Int)) /\ w = w' := by
 obtain ⟨P, uv, ov, h1, _⟩ := C.is
 exact pending_any w D P uv ov d h1
theorem exec_make192 {o : Oper} {ρ : Operand -> Value} {w : World} (l c : Operand) (ho : o.op = .makeSlice 63 l c) (hl : ρ l = .int .i64 192) (hc : ρ c = .int .i64 192) :
  (execOp ρ o).run Tryd.prog w = .ok (.value (.slice (some ⟨w.heap.size, 0, none⟩) 192 192)) (w.alloc (.cells (u8s z192) 5)) := by
 have := exec_make (P := Tryd.prog) (o := o) (ρ := ρ) (w := w) 63 5 l c ho (.int .u8 0) 1 1 Tryd.underlying63 info5 192 hl hc (by decide) (by decide)
 have e : madeCells (Value.int .u8 0).cells (192 * 1) = u8s z192 := made_bytes 192
 rw [e] at this
 exact this
end Go.Proofs.YthfobaeafapbnaaDoor.Disk
