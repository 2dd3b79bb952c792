/-
 What whole, head and own of package record, and slices.Clone of bytes, answer. And what follows it.
-/
import Derived.Test.YthfobaeafapbnaaDoorQ01
import Derived.Test.YthfobaeafapbnaaDoorQ23
import Derived.Test.YthfobaeafapbnaaDoorQ12
import Derived.Test.YthfobaeafapbnaaDoorQ19
import Derived.Test.YthfobaeafapbnaaDoorQ05
set_option linter.unusedVariables false
set_option maxRecDepth 100000
namespace Go.Proofs.YthfobaeafapbnaaDoor
open Go.RowKit Plain
theorem own_emptyB (w : World) : (w.alloc (.cells #[] 5)).ownsRow w.heap.size 5 1 (.slice (some ⟨w.heap.size, 0, none⟩) 0 0) 0 [] :=
 ⟨rfl, .inr ⟨w.heap.size, 0, #[], rfl, Nat.le_refl _, al_at rfl, Nat.le_refl _, by unfold maxLen; omega, by simp, by simp⟩⟩
set_option maxRecDepth 20000 in
set_option maxHeartbeats 1000000 in
theorem clone_any (a : Option Addr) (n cap : Nat) (L : List Int) (w : World) (h : Bytes w a n L) (hl : n < 1000000) :
  Calls Tryd.prog 49 #[.slice a n cap] w fun e w' => ∃ a' c', e = .returned (.slice a' n c') /\ w'.ownsRow w.heap.size 5 1 (.slice a' n c') n (L.map (Value.int .u8)) /\ Below w.heap.size w w' := by
 obtain ⟨i0, hi, hz0, hz1, hz2⟩ := info_parts info5
 cases a with
 | none =>
  have hn : n = 0 := by
   by_cases hm : n = 0
   ·exact hm
   ·obtain ⟨_, _, he, _⟩ := h.2.2 (by omega)
    cases he
  subst hn
  obtain rfl : L = [] := List.eq_nil_of_length_eq_zero h.1
  have hq : ∀ x, (binOp .eql 63 (.slice none 0 cap) (.slice none 0 0)).run Tryd.prog x = .ok (.bool true) x := fun x => eql_nil x 63 _ none 0 cap Tryd.underlying63
  clear h hl
  go_enter Tryd.func49, Tryd.ntmps49
  go_wp2
  go_ret
  exact ⟨_, _, rfl, World.ownsRow_nil _ _ _ _, Below.refl _ _⟩
 | some ad =>
  have HB : Box ((0 + n) * 1 <= 140737488355328) := ⟨by omega⟩
  have HN : Box ((L.map (Value.int .u8)).length = n * 1) := ⟨by simp [h.1]⟩
  have HO : Box (∀ u ∈ L.map (Value.int .u8), u.oneCell' = true) := ⟨ints_oneCell _ _⟩
  have HC : Box (∀ j u, (L.map (Value.int .u8))[j]? = some u -> w.cell? (ad.add j) = some u) := ⟨bytes_news h⟩
  have hq : ∀ x, (binOp .eql 63 (.slice (some ad) n cap) (.slice none 0 0)).run Tryd.prog x = .ok (.bool false) x := fun x => eql_nil x 63 _ _ _ _ Tryd.underlying63
  clear h hl
  go_enter Tryd.func49, Tryd.ntmps49
  go_wp2_with (at_builtin; refine wpList_append_own _ rfl _ _ 63 rfl w.heap.size 5 i0 (.int .u8 0) 1 1 Tryd.underlying63 hi hz0 hz1 hz2 rfl (by decide) _ 0 [] rfl (own_emptyB w) ad n cap (L.map (Value.int .u8)) rfl HN.out (fun j u hj => cell_al _ (HC.out j u hj)) HO.out (by unfold maxLen; have := HB.out; omega) HB.out (by simp) ?_; intro v' w2 hown hgr _; have HX : Box (_ /\ _) := ⟨hown, hgr⟩; clear hown hgr)
  go_ret
  obtain ⟨x1, x2⟩ := HX.out
  rw [Nat.zero_add, List.nil_append] at x1
  obtain ⟨a', c', rfl⟩ := own_form x1
  have hz : ∀ k, Value.ownBlock (.slice (some ⟨w.heap.size, 0, none⟩) 0 0) = some k -> w.heap.size <= k := fun k hk => by simp [Value.ownBlock] at hk; omega
  exact ⟨a', c', rfl, x1, below_grown x2 hz⟩
set_option maxHeartbeats 400000 in
theorem whole_any (m : Im) (b : Bool) (hb : ((m.bl : Int) == 160) = b) (w : World) :
  Calls Tryd.prog 52 #[.agg (imc m).toArray] w fun e w' => e = .returned (.bool b) /\ Below w.heap.size w w' := by
 have hb1 : Below w.heap.size w (w.alloc (.cells (imc m).toArray 65)) := (Below.refl _ _).alloc (Nat.le_refl _) _
 have c1 : (w.alloc (.cells (imc m).toArray 65)).cell? ⟨w.heap.size, 1, none⟩ = some (.slice m.ba m.bl m.bc) := by rw [cell_of_row _ _ _ _ _ _ (al_at rfl)]; rfl
 have HB : Box _ := ⟨hb1⟩
 obtain ⟨S, HS⟩ : ∃ S, Box (w.heap.size = S) := ⟨_, ⟨rfl⟩⟩
 clear hb1
 go_enter Tryd.func52, Tryd.ntmps52
 go_upto_region 1 with fail
 generalize w.alloc (.cells (imc m).toArray 65) = w1 at HB c1 ⊢
 rw [HS.out] at c1 ⊢
 go_wp2
 go_ret
 exact ⟨rfl, HB.out⟩
set_option maxHeartbeats 400000 in
theorem head_any (b : Bool) (w : World) : Calls Tryd.prog 71 #[.bool b] w fun e w' => e = .returned (.int .u64 (if b then 257 else 1)) /\ w = w' := by
 cases b
 ·go_enter Tryd.func71, Tryd.ntmps71
  go_wp2
  go_ret
  exact ⟨rfl, rfl⟩
 ·go_enter Tryd.func71, Tryd.ntmps71
  go_wp2
  go_ret
  exact ⟨rfl, rfl⟩
theorem but_setCells (b : Nat) : ∀ (vs : List Value) (o : Nat) (w0 w : World), But b w0 w -> But b w0 (w.setCells b o vs)
 | [], _, _, _, h => h
 | v :: r, o, w0, w, h => but_setCells b r (o + 1) w0 _ (h.setCell o v)
theorem but_cell {G : Nat} {w w' : World} (h : But G w w') {a : Addr} {v : Value} (hc : w.cell? a = some v) (hn : a.block ≠ G) : w'.cell? a = some v :=
 (World.cell?_of_block (h.block a.block (World.block_lt_of_cell? w a hc) hn)).trans hc
theorem but_range {G : Nat} {w w' : World} (h : But G w w') {b o : Nat} {cs : List Value} (hc : w.rangeAt b o cs) (hn : b ≠ G) : w'.rangeAt b o cs := fun j v hv => but_cell h (hc j v hv) hn
theorem below_but {B G : Nat} {w w1 w2 : World} (h : Below B w w1) (k : But G w1 w2) (hG : B <= G) (hB : B <= w1.heap.size) : Below B w w2 := h.trans (k.below hG hB)
def Owned (w w' : World) (m m' : Im) : Prop := pl m' = pl m /\ m'.bl = m.bl /\ OIm w' w.heap.size m' /\ Below w.heap.size w w'
theorem built_Im (b : Int) (a : Option Addr) (l c : Nat) : Tryd.prog.built 65 [(0, .int .u64 b), (1, .slice a l c)] = some #[.int .u64 b, .slice a l c] := by kernel_rfl
set_option maxHeartbeats 1000000 in
theorem own_any (m : Im) (w : World) (h : Bytes w m.ba m.bl m.bs) (hn : N64 m.blk) (hl : m.bl < 1000000) :
  Calls Tryd.prog 53 #[.agg (imc m).toArray] w fun e w' => ∃ m', e = .returned (.agg (imc m').toArray) /\ Owned w w' m m' := by
 obtain ⟨S, hS0⟩ : ∃ S, w.heap.size = S := ⟨_, rfl⟩
 obtain ⟨w1, hw1⟩ : ∃ w1, w.alloc (.cells (imc m).toArray 65) = w1 := ⟨_, rfl⟩
 obtain ⟨w2, hw2⟩ : ∃ w2, w1.alloc (.cells #[.int .u64 0, .slice none 0 0] 65) = w2 := ⟨_, rfl⟩
 have hs1 : w1.heap.size = S + 1 := by rw [<- hw1]; simp [hS0]
 have hs2 : w2.heap.size = S + 2 := by rw [<- hw2]; simp [hs1]
 have hb1 : Below w.heap.size w w1 := by rw [<- hw1]; exact (Below.refl _ _).alloc (Nat.le_refl _) _
 have hb2 : Below w.heap.size w w2 := by rw [<- hw2]; exact hb1.alloc hb1.size _
 have r1 : w2.heap[S]? = some (.cells (imc m).toArray 65 (0, 0)) := by rw [<- hw2]; exact al_old (by rw [<- hw1]; exact al_at hS0)
 have r2 : w2.heap[S + 1]? = some (.cells #[.int .u64 0, .slice none 0 0] 65 (0, 0)) := by rw [<- hw2]; exact al_at hs1
 have HK : Box (∀ x, Below w2.heap.size w2 x -> x.cell? ⟨S, 0, none⟩ = some (.int .u64 m.blk) /\ x.cell? ⟨S, 1, none⟩ = some (.slice m.ba m.bl m.bc)) := ⟨fun x hx => by
  have r := (hx.block S (by omega)).trans r1
  exact ⟨by rw [cell_of_row _ _ _ _ _ _ r]; rfl, by rw [cell_of_row _ _ _ _ _ _ r]; rfl⟩⟩
 have HR : Box (∀ x, Below w2.heap.size w2 x -> x.heap[S + 1]? = some (.cells #[.int .u64 0, .slice none 0 0] 65 (0, 0))) := ⟨fun x hx => (hx.block (S + 1) (by omega)).trans r2⟩
 have HC : Box (∀ x, Below w2.heap.size w2 x -> Calls Tryd.prog 49 #[.slice m.ba m.bl m.bc] x fun e w' => ∃ a' c', e = .returned (.slice a' m.bl c') /\ w'.ownsRow x.heap.size 5 1 (.slice a' m.bl c') m.bl (m.bs.map (Value.int .u8)) /\ Below x.heap.size x w') := ⟨fun x hx => clone_any m.ba m.bl m.bc m.bs x (h.below (below_to hb2 hx)) hl⟩
 have HB2 : Box (Below w.heap.size w w2 /\ w.heap.size = S /\ w2.heap.size = S + 2 /\ Byt m.bs /\ N64 m.blk) := ⟨hb2, hS0, hs2, h.2.1, hn⟩
 clear hb1 hb2 r1 r2 h hl hn hs2
 go_enter Tryd.func53, Tryd.ntmps53
 go_upto_region 1 with (refine atAlloc _ ?_; refine wpList_run rfl _ _ (exec_alloc 65 rfl _ zeroIm) ?_)
 (try simp only [hs1, hw2, Act.put, List.setIfInBounds_toArray, List.set_cons_zero, List.set_cons_succ])
 (try simp only [hw2])
 clear hw1 hw2 hS0 hs1
 refine begin_keep (S := fun x => x.cell? ⟨S, 0, none⟩ = some (.int .u64 m.blk) /\ x.cell? ⟨S, 1, none⟩ = some (.slice m.ba m.bl m.bc)) (by kernel_rfl) (fun wd hwd => ?_)
 have hbd : Below w2.heap.size w2 wd := by rw [hwd]; exact (Below.refl _ _).drew
 clear hwd
 have hS := HK.out wd hbd
 refine take_x (i := 0) (v := ?_) rfl ?_ hS ?_
 rotate_left
 ·rintro w' -; go_simp <;> with_reducible rfl
 try simp only [Act.put, pC, pD, pE, pF, pG]
 refine take_x (i := 1) (v := .int .u64 m.blk) rfl (fun w' hLat => exec_load1 24 _ _ rfl Tryd.underlying24 rfl _ rfl _ hLat.1) hS ?_
 try simp only [Act.put, pC, pD, pE, pF, pG, pH]
 refine take_x (i := 2) (v := ?_) rfl ?_ hS ?_
 rotate_left
 ·rintro w' -; go_simp <;> with_reducible rfl
 try simp only [Act.put, pC, pD, pE, pF, pG, pH]
 refine take_x (i := 3) (v := .slice m.ba m.bl m.bc) rfl (fun w' hLat => exec_load1 63 _ _ rfl Tryd.underlying63 rfl _ rfl _ hLat.2) hS ?_
 try simp only [Act.put, pC, pD, pE, pF, pG, pH]
 refine one_keep (i := 4) (by kernel_rfl) ?_
 refine keep_step rfl (by rfl) ?_
 go_simp
 refine Calls.mono (HC.out wd hbd) ?_
 rintro e x1 ⟨a', c', rfl, ho, hb1⟩
 have hbx := below_to hbd hb1
 have hS := HK.out x1 hbx
 refine ⟨hS, ?_⟩
 try simp only [Act.put, pC, pD, pE, pF, pG, pH]
 refine take_x (i := 5) (v := .agg #[.int .u64 m.blk, .slice a' m.bl c']) rfl (fun w' hLat => exec_built 65 [(0, .tmp 4), (1, .tmp 7)] rfl [(0, .int .u64 m.blk), (1, .slice a' m.bl c')] rfl _ (built_Im _ _ _ _)) hS ?_
 try simp only [Act.put, pC, pD, pE, pF, pG, pH]
 refine one_keep (i := 6) (by kernel_rfl) ?_
 refine keep_step rfl (by rfl) ?_
 refine wp_store_mid 65 (.tmp 2) (.tmp 8) rfl (S + 1) 0 #[.int .u64 m.blk, .slice a' m.bl c'] rfl rfl (there_row (HR.out x1 hbx) (Nat.le_refl _)) infoIm (by simp [Value.oneCell']) ?_
 obtain ⟨y, hy⟩ : ∃ y, x1.setCells (S + 1) 0 #[.int .u64 m.blk, .slice a' m.bl c'].toList = y := ⟨_, rfl⟩
 rw [hy]
 have hbut : But (S + 1) x1 y := by rw [<- hy]; exact but_setCells _ _ _ _ _ (But.refl _ _)
 have hry : y.heap[S + 1]? = some (.cells #[.int .u64 m.blk, .slice a' m.bl c'] 65 (0, 0)) := by rw [<- hy, setCells_row (S + 1) _ _ 0 _ _ (HR.out x1 hbx) (Nat.le_refl _)]; rfl
 have hS2 := hS
 have hS := And.intro (but_cell hbut hS2.1 (by show S ≠ S + 1; omega)) (but_cell hbut hS2.2 (by show S ≠ S + 1; omega))
 refine ⟨hS, ?_⟩
 try simp only [Act.put, pF, pG, pH]
 refine wpAnyH_done (by kernel_rfl) ?_ _
 have HY : Box (y.rangeAt (S + 1) 0 [.int .u64 m.blk, .slice a' m.bl c']) := ⟨range_arr hry _ (fun j v hv => by simpa using hv)⟩
 have HO : Box (Owned w y m ⟨m.blk, a', m.bl, c', m.bs⟩) := ⟨rfl, rfl, ⟨own_low2 (own_same ho (fun k hk => hbut.block k (ho.lt k hk).2 (fun e => by have := (ho.lt k hk).1; have := hbd.size; have := HB2.out.2.2.1; omega))) (by have := hbd.size; have := HB2.out.2.2.1; have := HB2.out.2.1; omega), HB2.out.2.2.2.1, HB2.out.2.2.2.2⟩, below_but (below_to HB2.out.1 hbx) hbut (by have := HB2.out.2.1; omega) (by have := HB2.out.1.size; have := hbx.size; omega)⟩
 clear hry hbut ho hb1 hbd hbx hS hS2 hy
 go_wp2
 refine bodyPost_ret (results_cell (t := 2) rfl _ _ (S + 1) [.int .u64 m.blk, .slice a' m.bl c'] _ rfl HY.out Tryd.underlying65 rfl infoIm) rfl ?_
 exact ⟨⟨m.blk, a', m.bl, c', m.bs⟩, rfl, HO.out⟩
def hd (l : Bool) : Int := if l then 257 else 1
def putP (x : (Int × List Int) × Bool) : List Int := bytesOf (hd x.2) 8 ++ bytesOf x.1.1 8 ++ x.1.2
theorem hd_bd (l : Bool) : N64 (hd l) := by cases l <;> exact ⟨by decide, by decide⟩
theorem byt_putP (x : (Int × List Int) × Bool) (h : Byt x.1.2) : Byt (putP x) := byt_app _ _ (byt_app _ _ (bytesOf_bd _ _) (bytesOf_bd _ _)) h
theorem len_putP (x : (Int × List Int) × Bool) (h : x.1.2.length = 160) : (putP x).length = 176 := by simp [putP, length_bytesOf, h]
theorem put_k (x : Int) (w : World) (hx : N64 x) :
  Calls Tryd.prog 42 #[.int .u64 x, .int .i64 8] w fun e w' => ∃ g, e = .returned (.slice (some ⟨g, 0, none⟩) 8 8) /\ Bytes w' (some ⟨g, 0, none⟩) 8 (bytesOf x 8) /\ Below w.heap.size w w' :=
 (put_ok x 8 w hx.1 hx.2 (by omega) (by omega)).mono fun e w' ⟨g, he, ho⟩ => ⟨g, he, ho.bytes (bytesOf_bd _ 8), ho.2.2⟩
theorem hd_any (l : Bool) (w : World) : Calls Tryd.prog 71 #[.bool l] w fun e w' => e = .returned (.int .u64 (hd l)) /\ w = w' := head_any l w
def Pu (w1 wr : World) (B : Nat) (v : Value) (n : Nat) (A : List Int) : Prop :=
 wr.ownsRow B 5 1 v n (A.map (Value.int .u8)) /\ Below B w1 wr /\ B <= wr.heap.size
theorem Pu.below {w1 wr w' : World} {B n : Nat} {v : Value} {A : List Int} (h : Pu w1 wr B v n A) (hb : Below wr.heap.size wr w') : Pu w1 w' B v n A :=
 ⟨own_later h.1 hb, h.2.1.trans (hb.mono h.2.2), Nat.le_trans h.2.2 hb.size⟩
theorem Pu.app {w1 wr w' : World} {B n m : Nat} {v v' : Value} {A L : List Int} (h : Pu w1 wr B v n A) (hw : Box (w'.ownsRow B 5 1 v' (n + m) ((A ++ L).map (Value.int .u8)) /\ Below B wr w' /\ B <= w'.heap.size)) : Pu w1 w' B v' (n + m) (A ++ L) :=
 ⟨hw.out.1, h.2.1.trans hw.out.2.1, hw.out.2.2⟩
set_option maxRecDepth 20000 in
set_option maxHeartbeats 1000000 in
theorem rcput_ok (r : Rc) (w : World) (h : Bytes w r.m.ba r.m.bl r.m.bs) (hn : N64 r.m.blk) (hl : r.m.bl = 160) :
  Calls Tryd.prog 55 #[.agg (rcc r).toArray] w fun e w' => ∃ a c, e = .returned (.tuple #[.slice a 176 c, .int .i64 0]) /\ w'.ownsRow w.heap.size 5 1 (.slice a 176 c) 176 ((putP (rpl r)).map (Value.int .u8)) /\ Below w.heap.size w w' := by
 obtain ⟨i0, hi, hz0, hz1, hz2⟩ := info_parts info5
 obtain ⟨S, hS⟩ : ∃ S, w.heap.size = S := ⟨_, rfl⟩
 obtain ⟨w1, hw1⟩ : ∃ w1, w.alloc (.cells (rcc r).toArray 101) = w1 := ⟨_, rfl⟩
 have hb1 : Below w.heap.size w w1 := by rw [<- hw1]; exact (Below.refl _ _).alloc (Nat.le_refl _) _
 have hs1 : w1.heap.size = S + 1 := by rw [<- hw1]; simp [hS]
 have r1 : w1.heap[S]? = some (.cells (rcc r).toArray 101 (0, 0)) := by rw [<- hw1]; exact al_at hS
 obtain ⟨⟨blk, ba, bl, bc, bs⟩, last⟩ := r
 simp only at h hn hl
 subst hl
 have HR : Box (∀ x, Below (S + 1) w1 x -> x.cell? ⟨S, 0, none⟩ = some (.int .u64 blk) /\ x.cell? ⟨S, 1, none⟩ = some (.slice ba 160 bc) /\ x.cell? ⟨S, 2, none⟩ = some (.bool last) /\ x.rangeAt S 0 (imc ⟨blk, ba, 160, bc, bs⟩) /\ Bytes x ba 160 bs) := ⟨fun x hx => by
  have r := (hx.block S (by omega)).trans r1
  refine ⟨by rw [cell_of_row _ _ _ _ _ _ r]; rfl, by rw [cell_of_row _ _ _ _ _ _ r]; rfl, by rw [cell_of_row _ _ _ _ _ _ r]; rfl, range_arr r _ (fun j v hv => ?_), h.below (hb1.trans (hx.mono (by omega)))⟩
  match j, hv with
  | 0, hv => simpa [imc, rcc] using hv
  | 1, hv => simpa [imc, rcc] using hv
  | j + 2, hv => simp [imc] at hv⟩
 have HB : Box (Below w.heap.size w w1 /\ w1.heap.size = S + 1 /\ w.heap.size = S) := ⟨hb1, hs1, hS⟩
 have H1 := HR.out w1 (Below.refl _ _)
 have HR1 : Box (w1.rangeAt S 0 (imc ⟨blk, ba, 160, bc, bs⟩)) := ⟨H1.2.2.2.1⟩
 clear H1 hb1 r1 hs1 h
 go_enter Tryd.func55, Tryd.ntmps55
 go_upto_region 1 with fail
 (try simp only [hw1, hS])
 clear hw1 hS
 go_upto_region 4 with (first
  | (refine atLoad 65 ?_; refine wpList_ldMid rfl 65 _ _ rfl Tryd.underlying65 rfl S 0 rfl (imc ⟨blk, ba, 160, bc, bs⟩) infoIm HR1.out ?_)
  | (go_at_call 52; refine (whole_any ⟨blk, ba, 160, bc, bs⟩ true rfl _).mono ?_; rintro e x1 ⟨rfl, hbx⟩; have HX : Box (Below (S + 1) w1 x1 /\ S + 1 <= x1.heap.size) := ⟨HB.out.2.1 ▸ hbx, HB.out.2.1 ▸ hbx.size⟩; clear hbx)
  | (at_make; refine wpList_make_own _ rfl _ _ 63 rfl (S + 1) 5 i0 (.int .u8 0) 1 Tryd.underlying63 hi hz0 hz1 .i64 .i64 176 176 rfl rfl rfl (by rw [hz2]; decide) (by decide) HX.out.2 ?_; intro x2 hown hgr; have H2 : Box (Pu w1 x2 (S + 1) (.slice (some ⟨x1.heap.size, 0, none⟩) 0 176) 0 []) := ⟨hown, HX.out.1.grown hgr HX.out.2 (by simp), Nat.le_trans HX.out.2 hgr.size⟩; clear hown hgr))
 obtain ⟨g2, hg2⟩ : ∃ g, x1.heap.size = g := ⟨_, rfl⟩
 rw [hg2] at H2
 rw [hg2]
 clear hg2 HX HR1
 have c2 := (HR.out x2 H2.out.2.1).2.2.1
 go_upto_region 5 with (first
  | (go_at_call 71; refine (hd_any last _).mono ?_; rintro e x3 ⟨rfl, rfl⟩; clear c2)
  | (go_at_call 42; refine (put_k (hd last) _ (hd_bd last)).mono ?_; rintro e x3 ⟨g3, rfl, hB, hb⟩; have H3 : Box (Pu w1 x3 (S + 1) (.slice (some ⟨g2, 0, none⟩) 0 176) 0 [] /\ Bytes x3 (some ⟨g3, 0, none⟩) 8 (bytesOf (hd last) 8)) := ⟨H2.out.below hb, hB⟩; clear hB hb)
  | (at_builtin; refine wpList_app rfl (.tmp 10) (.tmp 14) rfl (S + 1) 0 8 8 _ [] (bytesOf (hd last) 8) _ x3 rfl rfl H3.out.1.1 H3.out.2 (by decide) (Below.refl _ _) H3.out.1.2.2 ?_; intro v4 x4 h4; have H4 : Box (Pu w1 x4 (S + 1) v4 (0 + 8) ([] ++ bytesOf (hd last) 8)) := ⟨H3.out.1.app h4⟩; clear h4))
 rw [Nat.zero_add, List.nil_append] at H4
 clear H2 H3
 have c0 := (HR.out x4 H4.out.2.1).1
 go_upto_region 6 with (first
  | (go_at_call 42; refine (put_k blk _ hn).mono ?_; rintro e x5 ⟨g5, rfl, hB, hb⟩; have H5 : Box (Pu w1 x5 (S + 1) v4 8 (bytesOf (hd last) 8) /\ Bytes x5 (some ⟨g5, 0, none⟩) 8 (bytesOf blk 8)) := ⟨H4.out.below hb, hB⟩; clear hB hb c0)
  | (at_builtin; refine wpList_app rfl (.tmp 16) (.tmp 20) rfl (S + 1) 8 8 8 _ (bytesOf (hd last) 8) (bytesOf blk 8) _ x5 rfl rfl H5.out.1.1 H5.out.2 (by decide) (Below.refl _ _) H5.out.1.2.2 ?_; intro v6 x6 h6; have H6 : Box (Pu w1 x6 (S + 1) v6 (8 + 8) (bytesOf (hd last) 8 ++ bytesOf blk 8)) := ⟨H5.out.1.app h6⟩; clear h6))
 clear H4 H5
 have c1 := (HR.out x6 H6.out.2.1).2.1
 have HBy : Box (Bytes x6 ba 160 bs) := ⟨(HR.out x6 H6.out.2.1).2.2.2.2⟩
 have H6' : Box (Pu w1 x6 (S + 1) v6 16 (bytesOf (hd last) 8 ++ bytesOf blk 8)) := ⟨H6.out⟩
 clear H6
 go_wp2_with (at_builtin; refine wpList_app rfl (.tmp 22) (.tmp 25) rfl (S + 1) 16 160 bc _ (bytesOf (hd last) 8 ++ bytesOf blk 8) bs _ x6 rfl rfl H6'.out.1 HBy.out (by decide) (Below.refl _ _) H6'.out.2.2 ?_; intro v7 x7 h7; have H7 : Box (Pu w1 x7 (S + 1) v7 (16 + 160) (bytesOf (hd last) 8 ++ bytesOf blk 8 ++ bs)) := ⟨H6'.out.app h7⟩; clear h7)
 have H8 : Box (Pu w1 x7 (S + 1) v7 176 (bytesOf (hd last) 8 ++ bytesOf blk 8 ++ bs)) := ⟨H7.out⟩
 clear H7
 obtain ⟨a7, c7, rfl⟩ := own_form H8.out.1
 go_ret2
 exact ⟨a7, c7, rfl, own_low2 H8.out.1 (by have := HB.out.2.2; omega), HB.out.1.trans (H8.out.2.1.mono (by have := HB.out.2.2; omega))⟩
def dsha (M : List Int) : List Int := Dig.Plain.sha M
theorem length_dsha (M : List Int) : (dsha M).length = 32 := Dig.Plain.length_sha M
theorem byt_dsha (M : List Int) : Byt (dsha M) := Dig.Plain.byt_sha M
def z32 : List Int := List.replicate 32 0
theorem len_z32 : z32.length = 32 := by simp [z32]
theorem byt_z32 : Byt z32 := byt_zeros 32
def lk (tag : List Int) (p : Int) (L : List Int) : List Int := 255 :: (tag ++ (bytesOf p 4 ++ L))
theorem len_lk (tag : List Int) (p : Int) (L : List Int) : (lk tag p L).length = tag.length + L.length + 5 := by
 simp [lk, length_bytesOf]
 omega
def lnk (tag : List Int) (p : Int) (L : List Int) : List Int := dsha (lk tag p L)
structure Jst where
 start : Nat
 count : Nat
 tag : List Int
structure OkS (s : Jst) : Prop where
 lt : s.tag.length = 32
 bt : Byt s.tag
 s64 : s.start <= 18446744073709551615
 c64 : s.count <= 18446744073709551615
def scs (s : Jst) : List Value := .int .u64 (s.start : Int) :: .int .u64 (s.count : Int) :: s.tag.map (Value.int .u8)
def sa (s : Jst) : Array Value := (scs s).toArray
def zs : Jst := ⟨0, 0, z32⟩
theorem okS_zs : OkS zs := ⟨len_z32, byt_z32, Nat.zero_le _, Nat.zero_le _⟩
theorem len_scs {s : Jst} (h : OkS s) : (scs s).length = 34 := by simp [scs, h.lt]
theorem size_sa {s : Jst} (h : OkS s) : (sa s).size = 34 := by rw [sa, List.size_toArray, len_scs h]
theorem toList_sa (s : Jst) : (sa s).toList = scs s := by simp [sa]
theorem one_scs (s : Jst) : ∀ u ∈ scs s, u.oneCell' = true := by
 intro u hu
 simp only [scs, List.mem_cons, List.mem_map] at hu
 rcases hu with rfl | rfl | ⟨z, _, rfl⟩ <;> rfl
theorem all_sa (s : Jst) : (sa s).all (·.oneCell') = true := by
 rw [sa]
 simp only [List.all_toArray, List.all_eq_true]
 exact one_scs s
theorem zeroSt : (Tryd.prog.info? 26).map (·.zero) = some (some (.agg (sa zs))) := by kernel_rfl
theorem infoSt : (Tryd.prog.info? 26).map (·.size) = some 34 := by kernel_rfl
theorem zeroSum : (Tryd.prog.info? 23).map (·.zero) = some (some (.agg (u8s z32))) := by kernel_rfl
theorem infoSum : (Tryd.prog.info? 23).map (·.size) = some 32 := by kernel_rfl
theorem built_St0 : Tryd.prog.built 26 [] = some (sa zs) := by kernel_rfl
theorem built_St1 (x : Nat) : Tryd.prog.built 26 [(0, .int .u64 (x : Int))] = some (sa ⟨x, 0, z32⟩) := by kernel_rfl
structure Jt where
 key : List Int
 first : Nat
 size : Nat
 st : Jst
 nx : Int
 lim : Int
structure Jt.Ok (j : Jt) : Prop where
 key : j.key.length = 32
 kb : Byt j.key
 lo : 1 <= j.size
 hi : j.first + j.size <= 4096
 st : OkS j.st
 sl : j.st.start < j.size
 cl : j.st.count <= j.size
 nx : 1 <= j.nx /\ j.nx <= 18446744073709551615
 lim : 0 <= j.lim /\ j.lim <= 9223372036854775807
def jq (p : Value) (K : List Int) (f n : Int) (s : Jst) (x y : Int) : List Value := p :: (K.map (Value.int .u8) ++ (.int .u64 f :: .int .u64 n :: (scs s ++ [.int .u64 x, .int .u64 y])))
def jcs (D : Nat) (j : Jt) : List Value := jq (.pointer (some ⟨D, 0, none⟩)) j.key (j.first : Int) (j.size : Int) j.st j.nx j.lim
theorem len_jq (p : Value) (K : List Int) (f n : Int) (s : Jst) (x y : Int) (hK : K.length = 32) (hs : OkS s) : (jq p K f n s x y).length = 71 := by simp [jq, hK, len_scs hs]
theorem fill_val (place : Nat -> Option (Nat × Nat)) (cells : Array Value) (i off : Nat) (v : Value) (hv : v.cells = #[v]) (rest : List (Nat × Value)) (hp : place i = some (off, 1)) (hf : off + 1 <= cells.size) :
  Instr.fill place cells ((i, v) :: rest) = Instr.fill place (cells.setIfInBounds off v) rest := by
 rw [Instr.fill, hp]
 simp only [hv]
 rw [if_neg (by simp; omega)]
 rfl
theorem jq_key (p : Value) (K L : List Int) (f n : Int) (s : Jst) (x y : Int) (hK : K.length = 32) (hL : L.length = 32) : splice (jq p K f n s x y) 1 (L.map (Value.int .u8)) = jq p L f n s x y := by
 simp [splice, jq, hL, hK]
theorem jq_f (p : Value) (K : List Int) (f n m : Int) (s : Jst) (x y : Int) (hK : K.length = 32) : (jq p K f n s x y).set 33 (.int .u64 m) = jq p K m n s x y := by
 simp [jq, hK]
theorem jq_n (p : Value) (K : List Int) (f n m : Int) (s : Jst) (x y : Int) (hK : K.length = 32) : (jq p K f n s x y).set 34 (.int .u64 m) = jq p K f m s x y := by
 simp [jq, hK]
theorem jq_s (p : Value) (K : List Int) (f n : Int) (s t : Jst) (x y : Int) (hK : K.length = 32) (hs : OkS s) (ht : OkS t) : splice (jq p K f n s x y) 35 (scs t) = jq p K f n t x y := by
 simp [splice, jq, List.take_append, List.drop_append, hK, len_scs hs, len_scs ht]
 rw [List.take_of_length_le (by simp [hK]), List.drop_of_length_le (by simp [hK])]
 rfl
theorem jq_x (p : Value) (K : List Int) (f n : Int) (s : Jst) (x y z : Int) (hK : K.length = 32) (hs : OkS s) : (jq p K f n s x y).set 69 (.int .u64 z) = jq p K f n s z y := by
 simp [jq, hK, len_scs hs]
theorem jq_y (p : Value) (K : List Int) (f n : Int) (s : Jst) (x y z : Int) (hK : K.length = 32) (hs : OkS s) : (jq p K f n s x y).set 70 (.int .u64 z) = jq p K f n s x z := by
 simp [jq, hK, len_scs hs]
theorem builtJ (parts : List (Nat × Value)) : Tryd.prog.built 78 parts = Instr.fill (fun i => #[(0, 1), (1, 32), (33, 1), (34, 1), (35, 34), (69, 1), (70, 1)][i]?) (jq (.pointer none) z32 0 0 zs 0 0).toArray parts := by kernel_rfl
theorem built_J (p : Value) (hp : p.cells = #[p]) (K : List Int) (f n : Int) (s : Jst) (x y : Int) (hk : K.length = 32) (hs : OkS s) : Tryd.prog.built 78 [(0, p), (1, .agg (u8s K)), (2, .int .u64 f), (3, .int .u64 n), (4, .agg (sa s)), (5, .int .u64 x), (6, .int .u64 y)] = some (jq p K f n s x y).toArray := by
 have hz : z32.length = 32 := len_z32
 have hu : (u8s K).toList = K.map (Value.int .u8) := by simp [u8s]
 rw [builtJ, fill_val _ _ 0 0 _ hp _ rfl (by rw [List.size_toArray, len_jq _ _ _ _ _ _ _ hz okS_zs]; omega)]
 rw [List.setIfInBounds_toArray, show (jq (.pointer none) z32 0 0 zs 0 0).set 0 p = jq p z32 0 0 zs 0 0 from rfl]
 rw [fill_step _ _ 1 1 32 _ _ rfl (by rw [size_u8s, hk]) (by rw [List.size_toArray, len_jq _ _ _ _ _ _ _ hz okS_zs]; omega), hu, jq_key _ _ _ _ _ _ _ _ hz hk]
 rw [fill_val _ _ 2 33 _ rfl _ rfl (by rw [List.size_toArray, len_jq _ _ _ _ _ _ _ hk okS_zs]; omega), List.setIfInBounds_toArray, jq_f _ _ _ _ _ _ _ _ hk]
 rw [fill_val _ _ 3 34 _ rfl _ rfl (by rw [List.size_toArray, len_jq _ _ _ _ _ _ _ hk okS_zs]; omega), List.setIfInBounds_toArray, jq_n _ _ _ _ _ _ _ _ hk]
 rw [fill_step _ _ 4 35 34 _ _ rfl (size_sa hs) (by rw [List.size_toArray, len_jq _ _ _ _ _ _ _ hk okS_zs]; omega), toList_sa, jq_s _ _ _ _ _ _ _ _ hk okS_zs hs]
 rw [fill_val _ _ 5 69 _ rfl _ rfl (by rw [List.size_toArray, len_jq _ _ _ _ _ _ _ hk hs]; omega), List.setIfInBounds_toArray, jq_x _ _ _ _ _ _ _ _ hk hs]
 rw [fill_val _ _ 6 70 _ rfl _ rfl (by rw [List.size_toArray, len_jq _ _ _ _ _ _ _ hk hs]; omega), List.setIfInBounds_toArray, jq_y _ _ _ _ _ _ _ _ hk hs, Instr.fill]
structure JC (w0 w : World) (J D : Nat) (fp : Nat -> Prop) (j : Jt) (d : Disk.Dk) : Prop where
 cx : Disk.Cx w0 w D fp d
 row : w.heap[J]? = some (.cells (jcs D j).toArray 78 (0, 0))
 lo : w0.heap.size <= J
 nJ : ¬ fp J
 ok : j.Ok
 fit : j.first + j.size <= d.n
 dig : Dig.Tabs w0
 tab : Seal.Tab w0
structure Fw (S : Nat -> Prop) (w w' : World) (fp fp' : Nat -> Prop) : Prop where
 t : Disk.Turned (fun k => fp k ∨ S k) w w'
 k : ∀ k, k < w.heap.size -> ¬ fp k -> ¬ fp' k
theorem Fw.refl (S : Nat -> Prop) (w : World) (fp : Nat -> Prop) : Fw S w w fp fp := ⟨Disk.Turned.refl _ _, fun _ _ h => h⟩
theorem Fw.below {w w' : World} (S : Nat -> Prop) (fp : Nat -> Prop) (h : Below w.heap.size w w') : Fw S w w' fp fp := ⟨Disk.Turned.of_below h, fun _ _ h => h⟩
theorem Fw.size {S : Nat -> Prop} {w w' : World} {fp fp' : Nat -> Prop} (h : Fw S w w' fp fp') : w.heap.size <= w'.heap.size := h.t.size
theorem Fw.block {S : Nat -> Prop} {w w' : World} {fp fp' : Nat -> Prop} (h : Fw S w w' fp fp') {k : Nat} (hk : k < w.heap.size) (h1 : ¬ fp k) (h2 : ¬ S k) : w'.heap[k]? = w.heap[k]? := h.t.block k hk (fun h => h.elim h1 h2)
theorem Fw.trans {S : Nat -> Prop} {a b c : World} {fp fp' fp'' : Nat -> Prop} (h : Fw S a b fp fp') (k : Fw S b c fp' fp'') : Fw S a c fp fp'' := by
 refine ⟨⟨k.t.os.trans h.t.os, k.t.tape.trans h.t.tape, k.t.output.trans h.t.output, Nat.le_trans h.t.size k.t.size, fun i hi hn => ?_⟩, fun i hi hn => ?_⟩
 ·have h1 : ¬ fp i := fun hf => hn (.inl hf)
  have h2 : ¬ S i := fun hf => hn (.inr hf)
  exact (k.block (Nat.lt_of_lt_of_le hi h.size) (h.k i hi h1) h2).trans (h.block hi h1 h2)
 ·exact k.k i (Nat.lt_of_lt_of_le hi h.size) (h.k i hi hn)
theorem Fw.wider {S S' : Nat -> Prop} {w w' : World} {fp fp' : Nat -> Prop} (h : Fw S w w' fp fp') (hs : ∀ k, k < w.heap.size -> S k -> S' k) : Fw S' w w' fp fp' :=
 ⟨⟨h.t.os, h.t.tape, h.t.output, h.t.size, fun i hi hn => h.t.block i hi (fun hf => hn (hf.imp id (hs i hi)))⟩, h.k⟩
theorem Fw.of_fol {w w' : World} {fp fp' : Nat -> Prop} (h : Disk.Fol w fp w' fp') (S : Nat -> Prop) : Fw S w w' fp fp' :=
 ⟨⟨h.t.os, h.t.tape, h.t.output, h.t.size, fun i hi hn => h.t.block i hi (fun hf => hn (.inl hf))⟩, h.k⟩
theorem Fw.of_but {w w' : World} {G : Nat} (S : Nat -> Prop) (hS : S G) (h : But G w w') (fp : Nat -> Prop) : Fw S w w' fp fp :=
 ⟨⟨h.os, h.tape, h.output, h.size, fun i hi hn => h.block i hi (fun e => hn (.inr (e ▸ hS)))⟩, fun _ _ h => h⟩
theorem JC.lt {w0 w : World} {J D : Nat} {fp : Nat -> Prop} {j : Jt} {d : Disk.Dk} (h : JC w0 w J D fp j d) : J < w.heap.size := (Array.getElem?_eq_some_iff.1 h.row).1
theorem JC.below {w0 w w' : World} {J D : Nat} {fp : Nat -> Prop} {j : Jt} {d : Disk.Dk} (h : JC w0 w J D fp j d) (hb : Below w.heap.size w w') : JC w0 w' J D fp j d :=
 ⟨h.cx.step hb, (hb.block J h.lt).trans h.row, h.lo, h.nJ, h.ok, h.fit, h.dig, h.tab⟩
theorem JC.fol {w0 w w' : World} {J D : Nat} {fp fp' : Nat -> Prop} {j : Jt} {d d' : Disk.Dk} (h : JC w0 w J D fp j d) (c : Disk.Cx w0 w' D fp' d') (f : Disk.Fol w fp w' fp') (hd : d'.n = d.n) : JC w0 w' J D fp' j d' :=
 ⟨c, (f.t.block J h.lt h.nJ).trans h.row, h.lo, fun hf => f.k J h.lt h.nJ hf, h.ok, by rw [hd]; exact h.fit, h.dig, h.tab⟩
theorem JC.set {w0 w w' : World} {J D : Nat} {fp : Nat -> Prop} {j : Jt} {d : Disk.Dk} (h : JC w0 w J D fp j d) (G : Nat) (hb : But G w w') (h1 : ¬ fp G) (h2 : G ≠ J) (h4 : w0.heap.size <= G) : JC w0 w' J D fp j d := by
 have hne : ∀ k, fp k -> k ≠ G := fun k hk e => h1 (e ▸ hk)
 refine ⟨⟨h.cx.is.same (fun k hk hl => hb.block k hl (hne k hk)), ?_, h.cx.lo, fun k hk => Nat.lt_of_lt_of_le (h.cx.hi k hk) hb.size⟩, (hb.block J h.lt (fun e => h2 e.symm)).trans h.row, h.lo, h.nJ, h.ok, h.fit, h.dig, h.tab⟩
 have hl := h.cx.bel
 exact ⟨hb.os.trans hl.os, hb.tape.trans hl.tape, hb.output.trans hl.output, Nat.le_trans hl.size hb.size, fun k hk => (hb.block k (Nat.lt_of_lt_of_le hk hl.size) (by omega)).trans (hl.block k hk)⟩
theorem JC.turn {w0 w w' : World} {J D : Nat} {fp : Nat -> Prop} {j j' : Jt} {d : Disk.Dk} (h : JC w0 w J D fp j d) (hb : But J w w') (hr : w'.heap[J]? = some (.cells (jcs D j').toArray 78 (0, 0))) (ok : j'.Ok) (hf : j'.first = j.first) (hz : j'.size = j.size) : JC w0 w' J D fp j' d := by
 have hne : ∀ k, fp k -> k ≠ J := fun k hk e => h.nJ (e ▸ hk)
 refine ⟨⟨h.cx.is.same (fun k hk hl => hb.block k hl (hne k hk)), ?_, h.cx.lo, fun k hk => Nat.lt_of_lt_of_le (h.cx.hi k hk) hb.size⟩, hr, h.lo, h.nJ, ok, by rw [hf, hz]; exact h.fit, h.dig, h.tab⟩
 have hl := h.cx.bel
 have hlo := h.lo
 exact ⟨hb.os.trans hl.os, hb.tape.trans hl.tape, hb.output.trans hl.output, Nat.le_trans hl.size hb.size, fun k hk => (hb.block k (Nat.lt_of_lt_of_le hk hl.size) (by omega)).trans (hl.block k hk)⟩
structure Jrd (w : World) (J D : Nat) (j : Jt) : Prop where
 disk : w.cell? ⟨J, 0, none⟩ = some (.pointer (some ⟨D, 0, none⟩))
 key : w.rangeAt J 1 (j.key.map (Value.int .u8))
 first : w.cell? ⟨J, 33, none⟩ = some (.int .u64 (j.first : Int))
 size : w.cell? ⟨J, 34, none⟩ = some (.int .u64 (j.size : Int))
 st : w.rangeAt J 35 (scs j.st)
 start : w.cell? ⟨J, 35, none⟩ = some (.int .u64 (j.st.start : Int))
 count : w.cell? ⟨J, 36, none⟩ = some (.int .u64 (j.st.count : Int))
 nx : w.cell? ⟨J, 69, none⟩ = some (.int .u64 j.nx)
 lim : w.cell? ⟨J, 70, none⟩ = some (.int .u64 j.lim)
theorem jrd_of {w : World} {J D : Nat} {j : Jt} (h : w.heap[J]? = some (.cells (jcs D j).toArray 78 (0, 0))) (hk : j.key.length = 32) (hs : OkS j.st) : Jrd w J D j := by
 have hr := len_scs hs
 have hm : (j.key.map (Value.int .u8)).length = 32 := by simp [hk]
 have key : ∀ i, (jcs D j)[33 + i]? = (Value.int .u64 (j.first : Int) :: .int .u64 (j.size : Int) :: (scs j.st ++ [.int .u64 j.nx, .int .u64 j.lim]))[i]? := fun i => by
  rw [jcs, jq, show 33 + i = (32 + i) + 1 by omega, List.getElem?_cons_succ, List.getElem?_append_right (by omega), hm]
  congr 1
  omega
 have hc : ∀ i x, (jcs D j)[i]? = some x -> w.cell? ⟨J, i, none⟩ = some x := fun i x hx => by
  rw [cell_of_row _ _ _ _ _ _ h]
  simpa using hx
 have st : w.rangeAt J 35 (scs j.st) := fun i x hx => by
  have hi := (List.getElem?_eq_some_iff.1 hx).1
  refine hc _ _ ?_
  rw [show 35 + i = 33 + (i + 2) by omega, key, List.getElem?_cons_succ, List.getElem?_cons_succ, List.getElem?_append_left hi]
  exact hx
 refine ⟨hc _ _ rfl, fun i x hx => ?_, hc _ _ (key 0), hc _ _ (key 1), st, st 0 _ rfl, st 1 _ rfl, ?_, ?_⟩
 ·have hi := (List.getElem?_eq_some_iff.1 hx).1
  refine hc _ _ ?_
  rw [jcs, jq, Nat.add_comm, List.getElem?_cons_succ, List.getElem?_append_left hi]
  exact hx
 ·refine hc _ _ ?_
  rw [show 69 = 33 + (34 + 2) by rfl, key, List.getElem?_cons_succ, List.getElem?_cons_succ, List.getElem?_append_right (by omega), hr]
  rfl
 ·refine hc _ _ ?_
  rw [show 70 = 33 + (35 + 2) by rfl, key, List.getElem?_cons_succ, List.getElem?_cons_succ, List.getElem?_append_right (by omega), hr]
  rfl
theorem JC.rd {w0 w : World} {J D : Nat} {fp : Nat -> Prop} {j : Jt} {d : Disk.Dk} (h : JC w0 w J D fp j d) : Jrd w J D j := jrd_of h.row h.ok.key h.ok.st
def dwr (d : Disk.Dk) (p : Nat) (B : List Int) : Disk.Dk × Int := if d.down = true then (d, 13) else if d.st = true /\ d.left = 0 then ({ d with down := true }, 13) else (Disk.wrOk d p B, 0)
theorem dwrite_v {w0 w : World} {D : Nat} {fp : Nat -> Prop} {d : Disk.Dk} (C : Disk.Cx w0 w D fp d) (p : Nat) (a : Option Addr) (cap : Nat) (B : List Int) (hB : Bytes w a 192 B) (hap : ∀ ad, a = some ad -> ¬ fp ad.block) (hi : p < d.n) (hl : 0 <= d.left /\ d.left <= 9223372036854775807) (ho : d.ops.length < 1000000) (hu : d.uw.length < 1000000) :
  Calls Tryd.prog 40 #[.pointer (some ⟨D, 0, none⟩), .int .i64 (p : Int), .slice a 192 cap] w fun e w' => e = .returned (.int .i64 (dwr d p B).2) /\ (dwr d p B).1.n = d.n /\ ∃ fp', Disk.Cx w0 w' D fp' (dwr d p B).1 /\ Disk.Fol w fp w' fp' := by
 by_cases hd : d.down = true
 ·refine (Disk.write_down w D fp d C.is p a 192 cap hd).mono ?_
  rintro e w' ⟨rfl, rfl⟩
  simp only [dwr, hd, if_true]
  exact ⟨trivial, trivial, fp, C, ⟨Disk.Turned.refl _ _, fun _ _ h => h⟩⟩
 ·have hd' : d.down = false := by simpa using hd
  by_cases hs : d.st = true /\ d.left = 0
  ·refine (Disk.write_stop w D fp d C.is p a 192 cap hd' (by simp [Disk.fit, Disk.hsp, hi]) hs.1 hs.2).mono ?_
   rintro e w' ⟨rfl, h2⟩
   have e : dwr d p B = (({ d with down := true } : Disk.Dk), 13) := by simp only [dwr]; rw [if_neg hd, if_pos hs]
   rw [e]
   exact ⟨rfl, rfl, C.nx h2⟩
  ·refine (Disk.write_cx C p a cap B hB hap hd' hi (fun h1 h2 => hs ⟨h1, h2⟩) hl ho hu).mono ?_
   rintro e w' ⟨rfl, h2⟩
   simp only [dwr, hd', hs, Bool.false_eq_true, if_false]
   exact ⟨trivial, rfl, h2⟩
end Go.Proofs.YthfobaeafapbnaaDoor
