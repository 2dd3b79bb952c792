/-
  What whole, head and own of package record, and slices.Clone of bytes, answer. And what follows it.
-/
import Derived.Test.YtcggbnggmglphaaDoorQ24
namespace Go.Proofs.YtcggbnggmglphaaDoor
set_option maxRecDepth 100000
set_option linter.unusedVariables false
open Go.RowKit Plain
theorem own_emptyB (w : World) : (w.alloc (.cells #[] 5)).ownsRow w.heap.size 5 1 (.slice (some ⟨w.heap.size, 0, none⟩) 0 0) 0 [] :=
  ⟨rfl, .inr ⟨w.heap.size, 0, #[], rfl, Nat.le_refl _, al_at rfl, Nat.le_refl _, by unfold maxLen; omega, by simp, by simp⟩⟩
set_option maxRecDepth 20000 in
set_option maxHeartbeats 1000000 in
theorem clone_any (a : Option Addr) (n cap : Nat) (L : List Int) (w : World) (h : Bytes w a n L) (hl : n < 1000000) :
    Calls Tryd.prog 56 #[.slice a n cap] w fun e w' => ∃ a' c', e = .returned (.slice a' n c') ∧ w'.ownsRow w.heap.size 5 1 (.slice a' n c') n (L.map (Value.int .u8)) ∧ Below w.heap.size w w' := by
  obtain ⟨i0, hi, hz0, hz1, hz2⟩ := info_parts info5
  cases a with
  | none =>
    have hn : n = 0 := by
      by_cases hm : n = 0
      · exact hm
      · obtain ⟨_, _, he, _⟩ := h.2.2 (by omega)
        cases he
    subst hn
    obtain rfl : L = [] := List.eq_nil_of_length_eq_zero h.1
    have hq : ∀ x, (binOp .eql 58 (.slice none 0 cap) (.slice none 0 0)).run Tryd.prog x = .ok (.bool true) x := fun x => eql_nil x 58 _ none 0 cap Tryd.underlying58
    clear h hl
    go_enter Tryd.func56, Tryd.ntmps56
    go_wp2
    go_ret
    exact ⟨_, _, rfl, World.ownsRow_nil _ _ _ _, Below.refl _ _⟩
  | some ad =>
    have HB : Box ((0 + n) * 1 ≤ 140737488355328) := ⟨by omega⟩
    have HN : Box ((L.map (Value.int .u8)).length = n * 1) := ⟨by simp [h.1]⟩
    have HO : Box (∀ u ∈ L.map (Value.int .u8), u.oneCell' = true) := ⟨ints_oneCell _ _⟩
    have HC : Box (∀ j u, (L.map (Value.int .u8))[j]? = some u → w.cell? (ad.add j) = some u) := ⟨bytes_news h⟩
    have hq : ∀ x, (binOp .eql 58 (.slice (some ad) n cap) (.slice none 0 0)).run Tryd.prog x = .ok (.bool false) x := fun x => eql_nil x 58 _ _ _ _ Tryd.underlying58
    clear h hl
    go_enter Tryd.func56, Tryd.ntmps56
    go_wp2_with (at_builtin; refine wpList_append_own _ rfl _ _ 58 rfl w.heap.size 5 i0 (.int .u8 0) 1 1 Tryd.underlying58 hi hz0 hz1 hz2 rfl (by decide) _ 0 [] rfl (own_emptyB w) ad n cap (L.map (Value.int .u8)) rfl HN.out (fun j u hj => cell_al _ (HC.out j u hj)) HO.out (by unfold maxLen; have := HB.out; omega) HB.out (by simp) ?_; intro v' w2 hown hgr _; have HX : Box (_ ∧ _) := ⟨hown, hgr⟩; clear hown hgr)
    go_ret
    obtain ⟨x1, x2⟩ := HX.out
    rw [Nat.zero_add, List.nil_append] at x1
    obtain ⟨a', c', rfl⟩ := own_form x1
    have hz : ∀ k, Value.ownBlock (.slice (some ⟨w.heap.size, 0, none⟩) 0 0) = some k → w.heap.size ≤ k := fun k hk => by simp [Value.ownBlock] at hk; omega
    exact ⟨a', c', rfl, x1, below_grown x2 hz⟩
set_option maxHeartbeats 400000 in
theorem whole_any (m : Im) (b : Bool) (hb : ((m.bl : Int) == 160) = b) (w : World) :
    Calls Tryd.prog 41 #[.agg (imc m).toArray] w fun e w' => e = .returned (.bool b) ∧ Below w.heap.size w w' := by
  have hb1 : Below w.heap.size w (w.alloc (.cells (imc m).toArray 60)) := (Below.refl _ _).alloc (Nat.le_refl _) _
  have c1 : (w.alloc (.cells (imc m).toArray 60)).cell? ⟨w.heap.size, 1, none⟩ = some (.slice m.ba m.bl m.bc) := by rw [cell_of_row _ _ _ _ _ _ (al_at rfl)]; rfl
  have HB : Box _ := ⟨hb1⟩
  obtain ⟨S, HS⟩ : ∃ S, Box (w.heap.size = S) := ⟨_, ⟨rfl⟩⟩
  clear hb1
  go_enter Tryd.func41, Tryd.ntmps41
  go_upto_region 1 with fail
  generalize w.alloc (.cells (imc m).toArray 60) = w1 at HB c1 ⊢
  rw [HS.out] at c1 ⊢
  go_wp2
  go_ret
  exact ⟨rfl, HB.out⟩
set_option maxHeartbeats 400000 in
theorem head_any (b : Bool) (w : World) : Calls Tryd.prog 63 #[.bool b] w fun e w' => e = .returned (.int .u64 (if b then 257 else 1)) ∧ w = w' := by
  cases b
  · go_enter Tryd.func63, Tryd.ntmps63
    go_wp2
    go_ret
    exact ⟨rfl, rfl⟩
  · go_enter Tryd.func63, Tryd.ntmps63
    go_wp2
    go_ret
    exact ⟨rfl, rfl⟩
theorem but_setCells (b : Nat) : ∀ (vs : List Value) (o : Nat) (w0 w : World), But b w0 w → But b w0 (w.setCells b o vs)
  | [], _, _, _, h => h
  | v :: r, o, w0, w, h => but_setCells b r (o + 1) w0 _ (h.setCell o v)
theorem but_cell {G : Nat} {w w' : World} (h : But G w w') {a : Addr} {v : Value} (hc : w.cell? a = some v) (hn : a.block ≠ G) : w'.cell? a = some v :=
  (World.cell?_of_block (h.block a.block (World.block_lt_of_cell? w a hc) hn)).trans hc
theorem but_range {G : Nat} {w w' : World} (h : But G w w') {b o : Nat} {cs : List Value} (hc : w.rangeAt b o cs) (hn : b ≠ G) : w'.rangeAt b o cs := fun j v hv => but_cell h (hc j v hv) hn
theorem below_but {B G : Nat} {w w1 w2 : World} (h : Below B w w1) (k : But G w1 w2) (hG : B ≤ G) (hB : B ≤ w1.heap.size) : Below B w w2 := h.trans (k.below hG hB)
/-- An image with its bytes in new memory. -/
def Owned (w w' : World) (m m' : Im) : Prop := pl m' = pl m ∧ m'.bl = m.bl ∧ OIm w' w.heap.size m' ∧ Below w.heap.size w w'
theorem built_Im (b : Int) (a : Option Addr) (l c : Nat) : Tryd.prog.built 60 [(0, .int .u64 b), (1, .slice a l c)] = some #[.int .u64 b, .slice a l c] := by kernel_rfl
set_option maxHeartbeats 1000000 in
theorem own_any (m : Im) (w : World) (h : Bytes w m.ba m.bl m.bs) (hn : N64 m.blk) (hl : m.bl < 1000000) :
    Calls Tryd.prog 42 #[.agg (imc m).toArray] w fun e w' => ∃ m', e = .returned (.agg (imc m').toArray) ∧ Owned w w' m m' := by
  obtain ⟨S, hS0⟩ : ∃ S, w.heap.size = S := ⟨_, rfl⟩
  obtain ⟨w1, hw1⟩ : ∃ w1, w.alloc (.cells (imc m).toArray 60) = w1 := ⟨_, rfl⟩
  obtain ⟨w2, hw2⟩ : ∃ w2, w1.alloc (.cells #[.int .u64 0, .slice none 0 0] 60) = w2 := ⟨_, rfl⟩
  have hs1 : w1.heap.size = S + 1 := by rw [← hw1]; simp [hS0]
  have hs2 : w2.heap.size = S + 2 := by rw [← hw2]; simp [hs1]
  have hb1 : Below w.heap.size w w1 := by rw [← hw1]; exact (Below.refl _ _).alloc (Nat.le_refl _) _
  have hb2 : Below w.heap.size w w2 := by rw [← hw2]; exact hb1.alloc hb1.size _
  have r1 : w2.heap[S]? = some (.cells (imc m).toArray 60 (0, 0)) := by rw [← hw2]; exact al_old (by rw [← hw1]; exact al_at hS0)
  have r2 : w2.heap[S + 1]? = some (.cells #[.int .u64 0, .slice none 0 0] 60 (0, 0)) := by rw [← hw2]; exact al_at hs1
  have HK : Box (∀ x, Below w2.heap.size w2 x → x.cell? ⟨S, 0, none⟩ = some (.int .u64 m.blk) ∧ x.cell? ⟨S, 1, none⟩ = some (.slice m.ba m.bl m.bc)) := ⟨fun x hx => by
    have r := (hx.block S (by omega)).trans r1
    exact ⟨by rw [cell_of_row _ _ _ _ _ _ r]; rfl, by rw [cell_of_row _ _ _ _ _ _ r]; rfl⟩⟩
  have HR : Box (∀ x, Below w2.heap.size w2 x → x.heap[S + 1]? = some (.cells #[.int .u64 0, .slice none 0 0] 60 (0, 0))) := ⟨fun x hx => (hx.block (S + 1) (by omega)).trans r2⟩
  have HC : Box (∀ x, Below w2.heap.size w2 x → Calls Tryd.prog 56 #[.slice m.ba m.bl m.bc] x fun e w' => ∃ a' c', e = .returned (.slice a' m.bl c') ∧ w'.ownsRow x.heap.size 5 1 (.slice a' m.bl c') m.bl (m.bs.map (Value.int .u8)) ∧ Below x.heap.size x w') := ⟨fun x hx => clone_any m.ba m.bl m.bc m.bs x (h.below (below_to hb2 hx)) hl⟩
  have HB2 : Box (Below w.heap.size w w2 ∧ w.heap.size = S ∧ w2.heap.size = S + 2 ∧ Byt m.bs ∧ N64 m.blk) := ⟨hb2, hS0, hs2, h.2.1, hn⟩
  clear hb1 hb2 r1 r2 h hl hn hs2
  go_enter Tryd.func42, Tryd.ntmps42
  go_upto_region 1 with (refine atAlloc _ ?_; refine wpList_run rfl _ _ (exec_alloc 60 rfl _ zeroIm) ?_)
  (try simp only [hs1, hw2, Act.put, List.setIfInBounds_toArray, List.set_cons_zero, List.set_cons_succ])
  (try simp only [hw2])
  clear hw1 hw2 hS0 hs1
  refine begin_keep (S := fun x => x.cell? ⟨S, 0, none⟩ = some (.int .u64 m.blk) ∧ x.cell? ⟨S, 1, none⟩ = some (.slice m.ba m.bl m.bc)) (by kernel_rfl) (fun wd hwd => ?_)
  have hbd : Below w2.heap.size w2 wd := by rw [hwd]; exact (Below.refl _ _).drew
  clear hwd
  have hS := HK.out wd hbd
  refine take_s (i := 0) (v := ?_) rfl (by kernel_rfl) (by kernel_rfl) (by kernel_rfl) (fun _ _ _ h => h) (by rfl) ?_ hS ?_
  rotate_left
  · intro w' hLat; clear hLat; go_simp <;> with_reducible rfl
  try simp only [Act.put, List.setIfInBounds_toArray, List.set_cons_zero, List.set_cons_succ, List.getElem_toArray, List.getElem_cons_zero]
  refine take_s (i := 1) (v := .int .u64 m.blk) rfl (by kernel_rfl) (by kernel_rfl) (by kernel_rfl) (fun _ _ _ h => h) (by rfl) (fun w' hLat => exec_load1 37 _ _ rfl Tryd.underlying37 rfl _ rfl _ hLat.1) hS ?_
  try simp only [Act.put, List.setIfInBounds_toArray, List.set_cons_zero, List.set_cons_succ, List.getElem_toArray, List.getElem_cons_zero, List.getElem_cons_succ]
  refine take_s (i := 2) (v := ?_) rfl (by kernel_rfl) (by kernel_rfl) (by kernel_rfl) (fun _ _ _ h => h) (by rfl) ?_ hS ?_
  rotate_left
  · intro w' hLat; clear hLat; go_simp <;> with_reducible rfl
  try simp only [Act.put, List.setIfInBounds_toArray, List.set_cons_zero, List.set_cons_succ, List.getElem_toArray, List.getElem_cons_zero, List.getElem_cons_succ]
  refine take_s (i := 3) (v := .slice m.ba m.bl m.bc) rfl (by kernel_rfl) (by kernel_rfl) (by kernel_rfl) (fun _ _ _ h => h) (by rfl) (fun w' hLat => exec_load1 58 _ _ rfl Tryd.underlying58 rfl _ rfl _ hLat.2) hS ?_
  try simp only [Act.put, List.setIfInBounds_toArray, List.set_cons_zero, List.set_cons_succ, List.getElem_toArray, List.getElem_cons_zero, List.getElem_cons_succ]
  refine one_keep (i := 4) (by kernel_rfl) ?_
  refine keep_step rfl (by rfl) ?_
  go_simp
  refine Calls.mono (HC.out wd hbd) ?_
  rintro e x1 ⟨a', c', rfl, ho, hb1⟩
  have hbx := below_to hbd hb1
  have hS := HK.out x1 hbx
  refine ⟨hS, ?_⟩
  try simp only [Act.put, List.setIfInBounds_toArray, List.set_cons_zero, List.set_cons_succ, List.getElem_toArray, List.getElem_cons_zero, List.getElem_cons_succ]
  refine take_s (i := 5) (v := .agg #[.int .u64 m.blk, .slice a' m.bl c']) rfl (by kernel_rfl) (by kernel_rfl) (by kernel_rfl) (fun _ _ _ h => h) (by rfl) (fun w' hLat => exec_built 60 [(0, .tmp 4), (1, .tmp 7)] rfl [(0, .int .u64 m.blk), (1, .slice a' m.bl c')] rfl _ (built_Im _ _ _ _)) hS ?_
  try simp only [Act.put, List.setIfInBounds_toArray, List.set_cons_zero, List.set_cons_succ, List.getElem_toArray, List.getElem_cons_zero, List.getElem_cons_succ]
  refine one_keep (i := 6) (by kernel_rfl) ?_
  refine keep_step rfl (by rfl) ?_
  refine wp_store_mid 60 (.tmp 2) (.tmp 8) rfl (S + 1) 0 #[.int .u64 m.blk, .slice a' m.bl c'] rfl rfl (there_row (HR.out x1 hbx) (Nat.le_refl _)) infoIm (by simp [Value.oneCell']) ?_
  obtain ⟨y, hy⟩ : ∃ y, x1.setCells (S + 1) 0 #[.int .u64 m.blk, .slice a' m.bl c'].toList = y := ⟨_, rfl⟩
  rw [hy]
  have hbut : But (S + 1) x1 y := by rw [← hy]; exact but_setCells _ _ _ _ _ (But.refl _ _)
  have hry : y.heap[S + 1]? = some (.cells #[.int .u64 m.blk, .slice a' m.bl c'] 60 (0, 0)) := by rw [← hy, setCells_row (S + 1) _ _ 0 _ _ (HR.out x1 hbx) (Nat.le_refl _)]; rfl
  have hS2 := hS
  have hS := And.intro (but_cell hbut hS2.1 (by show S ≠ S + 1; omega)) (but_cell hbut hS2.2 (by show S ≠ S + 1; omega))
  refine ⟨hS, ?_⟩
  try simp only [Act.put, List.getElem_toArray, List.getElem_cons_zero, List.getElem_cons_succ]
  refine wpAnyH_done (by kernel_rfl) ?_ _
  have HY : Box (y.rangeAt (S + 1) 0 [.int .u64 m.blk, .slice a' m.bl c']) := ⟨range_arr hry _ (fun j v hv => by simpa using hv)⟩
  have HO : Box (Owned w y m ⟨m.blk, a', m.bl, c', m.bs⟩) := ⟨rfl, rfl, ⟨own_low2 (own_same ho (fun k hk => hbut.block k (ho.lt k hk).2 (fun e => by have := (ho.lt k hk).1; have := hbd.size; have := HB2.out.2.2.1; omega))) (by have := hbd.size; have := HB2.out.2.2.1; have := HB2.out.2.1; omega), HB2.out.2.2.2.1, HB2.out.2.2.2.2⟩, below_but (below_to HB2.out.1 hbx) hbut (by have := HB2.out.2.1; omega) (by have := HB2.out.1.size; have := hbx.size; omega)⟩
  clear hry hbut ho hb1 hbd hbx hS hS2 hy
  go_wp2
  refine bodyPost_ret (results_cell (t := 2) rfl _ _ (S + 1) [.int .u64 m.blk, .slice a' m.bl c'] _ rfl HY.out Tryd.underlying60 rfl infoIm) rfl ?_
  exact ⟨⟨m.blk, a', m.bl, c', m.bs⟩, rfl, HO.out⟩
end Go.Proofs.YtcggbnggmglphaaDoor
namespace Go.Proofs.YtcggbnggmglphaaDoor
set_option maxRecDepth 100000
set_option linter.unusedVariables false
open Go.RowKit Plain
/-- A record's head, and its bytes. -/
def hd (l : Bool) : Int := if l then 257 else 1
def putP (x : (Int × List Int) × Bool) : List Int := bytesOf (hd x.2) 8 ++ bytesOf x.1.1 8 ++ x.1.2
theorem hd_bd (l : Bool) : N64 (hd l) := by cases l <;> exact ⟨by decide, by decide⟩
theorem byt_putP (x : (Int × List Int) × Bool) (h : Byt x.1.2) : Byt (putP x) := byt_app _ _ (byt_app _ _ (bytesOf_bd _ _) (bytesOf_bd _ _)) h
theorem len_putP (x : (Int × List Int) × Bool) (h : x.1.2.length = 160) : (putP x).length = 176 := by simp [putP, length_bytesOf, h]
theorem put_k (x : Int) (w : World) (hx : N64 x) :
    Calls Tryd.prog 40 #[.int .u64 x, .int .i64 8] w fun e w' => ∃ g, e = .returned (.slice (some ⟨g, 0, none⟩) 8 8) ∧ Bytes w' (some ⟨g, 0, none⟩) 8 (bytesOf x 8) ∧ Below w.heap.size w w' :=
  (put_ok x 8 w hx.1 hx.2 (by omega) (by omega)).mono fun e w' ⟨g, he, ho⟩ => ⟨g, he, ho.bytes (bytesOf_bd _ 8), ho.2.2⟩
theorem hd_any (l : Bool) (w : World) : Calls Tryd.prog 63 #[.bool l] w fun e w' => e = .returned (.int .u64 (hd l)) ∧ w = w' := head_any l w
/-- What Put has put so far. -/
def Pu (w1 wr : World) (B : Nat) (v : Value) (n : Nat) (A : List Int) : Prop :=
  wr.ownsRow B 5 1 v n (A.map (Value.int .u8)) ∧ Below B w1 wr ∧ B ≤ wr.heap.size
theorem Pu.below {w1 wr w' : World} {B n : Nat} {v : Value} {A : List Int} (h : Pu w1 wr B v n A) (hb : Below wr.heap.size wr w') : Pu w1 w' B v n A :=
  ⟨own_later h.1 hb, h.2.1.trans (hb.mono h.2.2), Nat.le_trans h.2.2 hb.size⟩
theorem Pu.app {w1 wr w' : World} {B n m : Nat} {v v' : Value} {A L : List Int} (h : Pu w1 wr B v n A) (hw : Box (w'.ownsRow B 5 1 v' (n + m) ((A ++ L).map (Value.int .u8)) ∧ Below B wr w' ∧ B ≤ w'.heap.size)) : Pu w1 w' B v' (n + m) (A ++ L) :=
  ⟨hw.out.1, h.2.1.trans hw.out.2.1, hw.out.2.2⟩
set_option maxRecDepth 20000 in
set_option maxHeartbeats 1000000 in
theorem rcput_ok (r : Rc) (w : World) (h : Bytes w r.m.ba r.m.bl r.m.bs) (hn : N64 r.m.blk) (hl : r.m.bl = 160) :
    Calls Tryd.prog 44 #[.agg (rcc r).toArray] w fun e w' => ∃ a c, e = .returned (.tuple #[.slice a 176 c, .int .i64 0]) ∧ w'.ownsRow w.heap.size 5 1 (.slice a 176 c) 176 ((putP (rpl r)).map (Value.int .u8)) ∧ Below w.heap.size w w' := by
  obtain ⟨i0, hi, hz0, hz1, hz2⟩ := info_parts info5
  obtain ⟨S, hS⟩ : ∃ S, w.heap.size = S := ⟨_, rfl⟩
  obtain ⟨w1, hw1⟩ : ∃ w1, w.alloc (.cells (rcc r).toArray 82) = w1 := ⟨_, rfl⟩
  have hb1 : Below w.heap.size w w1 := by rw [← hw1]; exact (Below.refl _ _).alloc (Nat.le_refl _) _
  have hs1 : w1.heap.size = S + 1 := by rw [← hw1]; simp [hS]
  have r1 : w1.heap[S]? = some (.cells (rcc r).toArray 82 (0, 0)) := by rw [← hw1]; exact al_at hS
  obtain ⟨⟨blk, ba, bl, bc, bs⟩, last⟩ := r
  simp only at h hn hl
  subst hl
  have HR : Box (∀ x, Below (S + 1) w1 x → x.cell? ⟨S, 0, none⟩ = some (.int .u64 blk) ∧ x.cell? ⟨S, 1, none⟩ = some (.slice ba 160 bc) ∧ x.cell? ⟨S, 2, none⟩ = some (.bool last) ∧ x.rangeAt S 0 (imc ⟨blk, ba, 160, bc, bs⟩) ∧ Bytes x ba 160 bs) := ⟨fun x hx => by
    have r := (hx.block S (by omega)).trans r1
    refine ⟨by rw [cell_of_row _ _ _ _ _ _ r]; rfl, by rw [cell_of_row _ _ _ _ _ _ r]; rfl, by rw [cell_of_row _ _ _ _ _ _ r]; rfl, range_arr r _ (fun j v hv => ?_), h.below (hb1.trans (hx.mono (by omega)))⟩
    match j, hv with
    | 0, hv => simpa [imc, rcc] using hv
    | 1, hv => simpa [imc, rcc] using hv
    | j + 2, hv => simp [imc] at hv⟩
  have HB : Box (Below w.heap.size w w1 ∧ w1.heap.size = S + 1 ∧ w.heap.size = S) := ⟨hb1, hs1, hS⟩
  have H1 := HR.out w1 (Below.refl _ _)
  have HR1 : Box (w1.rangeAt S 0 (imc ⟨blk, ba, 160, bc, bs⟩)) := ⟨H1.2.2.2.1⟩
  clear H1 hb1 r1 hs1 h
  go_enter Tryd.func44, Tryd.ntmps44
  go_upto_region 1 with fail
  (try simp only [hw1, hS])
  clear hw1 hS
  go_upto_region 4 with (first
    | (refine atLoad 60 ?_; refine wpList_ldMid rfl 60 _ _ rfl Tryd.underlying60 rfl S 0 rfl (imc ⟨blk, ba, 160, bc, bs⟩) infoIm HR1.out ?_)
    | (go_at_call 41; refine (whole_any ⟨blk, ba, 160, bc, bs⟩ true rfl _).mono ?_; rintro e x1 ⟨rfl, hbx⟩; have HX : Box (Below (S + 1) w1 x1 ∧ S + 1 ≤ x1.heap.size) := ⟨HB.out.2.1 ▸ hbx, HB.out.2.1 ▸ hbx.size⟩; clear hbx)
    | (at_make; refine wpList_make_own _ rfl _ _ 58 rfl (S + 1) 5 i0 (.int .u8 0) 1 Tryd.underlying58 hi hz0 hz1 .i64 .i64 176 176 rfl rfl rfl (by rw [hz2]; decide) (by decide) HX.out.2 ?_; intro x2 hown hgr; have H2 : Box (Pu w1 x2 (S + 1) (.slice (some ⟨x1.heap.size, 0, none⟩) 0 176) 0 []) := ⟨hown, HX.out.1.grown hgr HX.out.2 (by simp), Nat.le_trans HX.out.2 hgr.size⟩; clear hown hgr))
  obtain ⟨g2, hg2⟩ : ∃ g, x1.heap.size = g := ⟨_, rfl⟩
  rw [hg2] at H2
  rw [hg2]
  clear hg2 HX HR1
  have c2 := (HR.out x2 H2.out.2.1).2.2.1
  go_upto_region 5 with (first
    | (go_at_call 63; refine (hd_any last _).mono ?_; rintro e x3 ⟨rfl, rfl⟩; clear c2)
    | (go_at_call 40; refine (put_k (hd last) _ (hd_bd last)).mono ?_; rintro e x3 ⟨g3, rfl, hB, hb⟩; have H3 : Box (Pu w1 x3 (S + 1) (.slice (some ⟨g2, 0, none⟩) 0 176) 0 [] ∧ Bytes x3 (some ⟨g3, 0, none⟩) 8 (bytesOf (hd last) 8)) := ⟨H2.out.below hb, hB⟩; clear hB hb)
    | (at_builtin; refine wpList_app rfl (.tmp 10) (.tmp 14) rfl (S + 1) 0 8 8 _ [] (bytesOf (hd last) 8) _ x3 rfl rfl H3.out.1.1 H3.out.2 (by decide) (Below.refl _ _) H3.out.1.2.2 ?_; intro v4 x4 h4; have H4 : Box (Pu w1 x4 (S + 1) v4 (0 + 8) ([] ++ bytesOf (hd last) 8)) := ⟨H3.out.1.app h4⟩; clear h4))
  rw [Nat.zero_add, List.nil_append] at H4
  clear H2 H3
  have c0 := (HR.out x4 H4.out.2.1).1
  go_upto_region 6 with (first
    | (go_at_call 40; refine (put_k blk _ hn).mono ?_; rintro e x5 ⟨g5, rfl, hB, hb⟩; have H5 : Box (Pu w1 x5 (S + 1) v4 8 (bytesOf (hd last) 8) ∧ Bytes x5 (some ⟨g5, 0, none⟩) 8 (bytesOf blk 8)) := ⟨H4.out.below hb, hB⟩; clear hB hb c0)
    | (at_builtin; refine wpList_app rfl (.tmp 16) (.tmp 20) rfl (S + 1) 8 8 8 _ (bytesOf (hd last) 8) (bytesOf blk 8) _ x5 rfl rfl H5.out.1.1 H5.out.2 (by decide) (Below.refl _ _) H5.out.1.2.2 ?_; intro v6 x6 h6; have H6 : Box (Pu w1 x6 (S + 1) v6 (8 + 8) (bytesOf (hd last) 8 ++ bytesOf blk 8)) := ⟨H5.out.1.app h6⟩; clear h6))
  clear H4 H5
  have c1 := (HR.out x6 H6.out.2.1).2.1
  have HBy : Box (Bytes x6 ba 160 bs) := ⟨(HR.out x6 H6.out.2.1).2.2.2.2⟩
  have H6' : Box (Pu w1 x6 (S + 1) v6 16 (bytesOf (hd last) 8 ++ bytesOf blk 8)) := ⟨H6.out⟩
  clear H6
  go_wp2_with (at_builtin; refine wpList_app rfl (.tmp 22) (.tmp 25) rfl (S + 1) 16 160 bc _ (bytesOf (hd last) 8 ++ bytesOf blk 8) bs _ x6 rfl rfl H6'.out.1 HBy.out (by decide) (Below.refl _ _) H6'.out.2.2 ?_; intro v7 x7 h7; have H7 : Box (Pu w1 x7 (S + 1) v7 (16 + 160) (bytesOf (hd last) 8 ++ bytesOf blk 8 ++ bs)) := ⟨H6'.out.app h7⟩; clear h7)
  have H8 : Box (Pu w1 x7 (S + 1) v7 176 (bytesOf (hd last) 8 ++ bytesOf blk 8 ++ bs)) := ⟨H7.out⟩
  clear H7
  obtain ⟨a7, c7, rfl⟩ := own_form H8.out.1
  go_ret2
  exact ⟨a7, c7, rfl, own_low2 H8.out.1 (by have := HB.out.2.2; omega), HB.out.1.trans (H8.out.2.1.mono (by have := HB.out.2.2; omega))⟩
end Go.Proofs.YtcggbnggmglphaaDoor
