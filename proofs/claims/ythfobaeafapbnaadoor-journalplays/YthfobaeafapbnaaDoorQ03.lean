/-
 What the Go function mixed of package digest answers, for every words and every schedule. And what follows it.
-/
import Derived.BigRegion
import Derived.Deep.QuietTactic
import Derived.BigQuiet
import Derived.Deep.MidRow
import Derived.Test.YthfobaeafapbnaaDoorQ02
set_option linter.unusedVariables false
set_option maxRecDepth 100000
namespace Go.Proofs.YthfobaeafapbnaaDoor.Dig
open Go.RowKit Go.Proofs.YthfobaeafapbnaaDoor.Dig.Plain
def Tabs (w : World) : Prop := 2 <= w.heap.size /\ (∀ i, i < 8 -> w.cell? ⟨0, i, none⟩ = some (.int .u32 (hh.getD i 0))) /\ ∀ i, i < 64 -> w.cell? ⟨1, i, none⟩ = some (.int .u32 (kk.getD i 0))
theorem Tabs.below {w w' : World} (h : Tabs w) (hb : Below w.heap.size w w') : Tabs w' := by
 have h2 := h.1
 exact ⟨Nat.le_trans h.1 hb.size, fun i hi => (hb.cell (by show 0 < _; omega)).trans (h.2.1 i hi), fun i hi => (hb.cell (by show 1 < _; omega)).trans (h.2.2 i hi)⟩
theorem index43 (X : List Int) (hX : X.length = 8) (k : Nat) (hk : k < 8) (w : World) : (Instr.index 141 (.agg (u32s X)) (.int .i64 k)).run Tryd.prog w = .ok (.int .u32 (X.getD k 0)) w :=
 run_index_row Tryd.underlying141 Tryd.underlying71 rfl (by kernel_rfl) k hk (by simp [u32s, hX, hk]) w
set_option maxRecDepth 20000 in
set_option maxHeartbeats 2000000 in
theorem mixed_any (H W : List Int) (w : World) (hH : H.length = 8) (hW : W.length = 64) (hHw : Wrd H) (hWw : Wrd W) (hT : Tabs w) :
  Calls Tryd.prog 76 #[.agg (u32s H), .agg (u32s W)] w fun e w' => e = .returned (.agg (u32s (mix H W))) /\ Below w.heap.size w w' := by
 obtain ⟨S, hS⟩ : ∃ S, w.heap.size = S := ⟨_, rfl⟩
 have HS : Hid (w.heap.size = S) := hS
 clear hS
 have h2 : 2 <= S := by rw [<- HS.out]; exact hT.1
 have HT : Hid (∀ wr, Below S w wr -> Tabs wr) := fun wr hb => hT.below (by rw [HS.out]; exact hb)
 clear hT
 go_enter Tryd.func76, Tryd.ntmps76
 go_wp2
 rw [HS.out]
 obtain ⟨x0, hx0⟩ : ∃ x0, x0 = ((w.alloc (Obj.cells (u32s H) 141)).alloc (Obj.cells (u32s W) 163)).alloc (Obj.cells (fil [] 8) 141) := ⟨_, rfl⟩
 have hz8 : fil [] 8 = #[.int .u32 0, .int .u32 0, .int .u32 0, .int .u32 0, .int .u32 0, .int .u32 0, .int .u32 0, .int .u32 0] := rfl
 rw [hz8] at hx0
 have gH : x0.heap[S]? = some (.cells (u32s H) 141 (0, 0)) := by rw [hx0]; exact al_old (al_old (al_at HS.out))
 have gW : x0.heap[S + 1]? = some (.cells (u32s W) 163 (0, 0)) := by rw [hx0]; exact al_old (al_at (by simp [HS.out]))
 have gR : x0.heap[S + 2]? = some (.cells (fil [] 8) 141 (0, 0)) := by rw [hx0]; exact al_at (by simp [HS.out])
 have gB : Below S w x0 := by rw [hx0, <- HS.out]; exact (((Below.refl _ _).alloc (Nat.le_refl _) _).alloc (by simp) _).alloc (by simp; omega) _
 rw [<- hx0]
 clear hx0 hz8
 obtain ⟨y0, Y0⟩ : ∃ z, Hid (H.getD 0 0 = z) := ⟨_, rfl⟩
 obtain ⟨y1, Y1⟩ : ∃ z, Hid (H.getD 1 0 = z) := ⟨_, rfl⟩
 obtain ⟨y2, Y2⟩ : ∃ z, Hid (H.getD 2 0 = z) := ⟨_, rfl⟩
 obtain ⟨y3, Y3⟩ : ∃ z, Hid (H.getD 3 0 = z) := ⟨_, rfl⟩
 obtain ⟨y4, Y4⟩ : ∃ z, Hid (H.getD 4 0 = z) := ⟨_, rfl⟩
 obtain ⟨y5, Y5⟩ : ∃ z, Hid (H.getD 5 0 = z) := ⟨_, rfl⟩
 obtain ⟨y6, Y6⟩ : ∃ z, Hid (H.getD 6 0 = z) := ⟨_, rfl⟩
 obtain ⟨y7, Y7⟩ : ∃ z, Hid (H.getD 7 0 = z) := ⟨_, rfl⟩
 have c0 := u32_cell x0 S 0 H _ _ gH (by omega)
 rw [Y0.out] at c0
 have c1 := u32_cell x0 S 1 H _ _ gH (by omega)
 rw [Y1.out] at c1
 have c2 := u32_cell x0 S 2 H _ _ gH (by omega)
 rw [Y2.out] at c2
 have c3 := u32_cell x0 S 3 H _ _ gH (by omega)
 rw [Y3.out] at c3
 have c4 := u32_cell x0 S 4 H _ _ gH (by omega)
 rw [Y4.out] at c4
 have c5 := u32_cell x0 S 5 H _ _ gH (by omega)
 rw [Y5.out] at c5
 have c6 := u32_cell x0 S 6 H _ _ gH (by omega)
 rw [Y6.out] at c6
 have c7 := u32_cell x0 S 7 H _ _ gH (by omega)
 rw [Y7.out] at c7
 have HY : Hid ((⟨y0, y1, y2, y3, y4, y5, y6, y7⟩ : St) = rnd W (St.of H) 0) := by rw [<- Y0.out, <- Y1.out, <- Y2.out, <- Y3.out, <- Y4.out, <- Y5.out, <- Y6.out, <- Y7.out]; rfl
 go_quiet (fail)
 have gH1 : (x0.drewN nq).heap[S]? = _ := gH
 have gW1 : (x0.drewN nq).heap[S + 1]? = _ := gW
 have gR1 : (x0.drewN nq).heap[S + 2]? = _ := gR
 have gB1 : Below S w (x0.drewN nq) := ⟨gB.os, gB.tape, gB.output, gB.size, gB.block⟩
 clear gH gW gR gB c0 c1 c2 c3 c4 c5 c6 c7
 generalize x0.drewN nq = x1 at gH1 gW1 gR1 gB1 ⊢
 clear nq x0
 have c4 := u32_cell x1 S 4 H _ _ gH1 (by omega)
 rw [Y4.out] at c4
 have c5 := u32_cell x1 S 5 H _ _ gH1 (by omega)
 rw [Y5.out] at c5
 have c6 := u32_cell x1 S 6 H _ _ gH1 (by omega)
 rw [Y6.out] at c6
 have c7 := u32_cell x1 S 7 H _ _ gH1 (by omega)
 rw [Y7.out] at c7
 go_wp2
 go_quiet (fail)
 have HG : Hid ((x1.drewN nq).heap[S]? = _ /\ (x1.drewN nq).heap[S + 1]? = _ /\ (x1.drewN nq).heap[S + 2]? = _ /\ Below S w (x1.drewN nq)) := ⟨gH1, gW1, gR1, gB1.os, gB1.tape, gB1.output, gB1.size, gB1.block⟩
 clear gH1 gW1 gR1 gB1 c4 c5 c6 c7
 generalize x1.drewN nq = x2 at HG ⊢
 clear nq x1
 go_wp2
 go_loopw [5, 6, 7, 8, 9, 10, 11, 12, 34] (fun va vb vc vd ve vf vg vh i wr => ∃ (k : Nat) (a b c d e f g h : Int), Hid (k <= 64 /\ (⟨a, b, c, d, e, f, g, h⟩ : St) = rnd W (St.of H) k) /\ i = .int .i64 k /\ va = .int .u32 a /\ vb = .int .u32 b /\ vc = .int .u32 c /\ vd = .int .u32 d /\ ve = .int .u32 e /\ vf = .int .u32 f /\ vg = .int .u32 g /\ vh = .int .u32 h /\ wr.heap[S]? = some (.cells (u32s H) 141 (0, 0)) /\ wr.heap[S + 1]? = some (.cells (u32s W) 163 (0, 0)) /\ wr.heap[S + 2]? = some (.cells (fil [] 8) 141 (0, 0)) /\ Below S w wr) (fun _ _ _ _ _ _ _ _ i _ => 64 - (intOf i).toNat)
 case atStart => exact ⟨0, _, _, _, _, _, _, _, _, ⟨by omega, HY.out⟩, rfl, rfl, rfl, rfl, rfl, rfl, rfl, rfl, rfl, HG.out⟩
 case round =>
  clear HG HY Y0 Y1 Y2 Y3 Y4 Y5 Y6 Y7
  obtain ⟨k, a, b, c, d, e, f, g, h, HK, rfl, rfl, rfl, rfl, rfl, rfl, rfl, rfl, rfl, gH, gW, gR, gB⟩ := hrel
  have hok : (⟨a, b, c, d, e, f, g, h⟩ : St).OK := by rw [HK.out.2]; exact rnd_ok W _ (St.of_ok hHw) k
  by_cases hlt : k < 64
  ·obtain ⟨ba, bb, bc, bd, be, bf, bg, bh⟩ := hok
   have cW := u32_cell wr (S + 1) k W _ _ gW (by omega)
   have cK := (HT.out wr gB).2.2 k hlt
   have bW := hWw k
   have bK := wrd_kk k
   obtain ⟨wk, HWk⟩ : ∃ z, Hid (W.getD k 0 = z) := ⟨_, rfl⟩
   obtain ⟨kc, HKc⟩ : ∃ z, Hid (kk.getD k 0 = z) := ⟨_, rfl⟩
   rw [HWk.out] at cW bW
   rw [HKc.out] at cK bK
   have HN : Hid (stepSt ⟨a, b, c, d, e, f, g, h⟩ kc wk = rnd W (St.of H) (k + 1)) := by rw [rnd, <- HK.out.2, HWk.out, HKc.out]; rfl
   change W32 a at ba
   change W32 b at bb
   change W32 c at bc
   change W32 d at bd
   change W32 e at be
   change W32 f at bf
   change W32 g at bg
   change W32 h at bh
   go_wp2
   go_quiet ((go_at_call 82; exact Calls.quiet_of_same (right_k _ _ _ (by assumption) (by decide) (by decide))))
   have R2 : (wr.drewN nq).heap[S]? = _ := gH
   have W2 : (wr.drewN nq).heap[S + 1]? = _ := gW
   have Z2 : (wr.drewN nq).heap[S + 2]? = _ := gR
   have B2 : Below S w (wr.drewN nq) := ⟨gB.os, gB.tape, gB.output, gB.size, gB.block⟩
   clear gH gW gR gB cW cK
   generalize wr.drewN nq = x2 at R2 W2 Z2 B2 ⊢
   clear nq wr
   go_wp2_with (go_at_call 82; refine (right_k _ _ _ (by assumption) (by decide) (by decide)).mono ?_; rintro e w' ⟨rfl, rfl⟩)
   go_roundw
   case rel =>
    exact ⟨k + 1, (stepSt ⟨a, b, c, d, e, f, g, h⟩ kc wk).a, _, _, _, (stepSt ⟨a, b, c, d, e, f, g, h⟩ kc wk).e, _, _, _, ⟨by omega, HN.out⟩, by go_num, rfl, rfl, rfl, rfl, rfl, rfl, rfl, rfl, R2, W2, Z2, B2⟩
   case measure => simp [intOf]; omega
  ·obtain ⟨hk, hs⟩ := HK.out
   obtain rfl : k = 64 := by omega
   obtain ⟨X, HX⟩ : ∃ X, Hid ([a, b, c, d, e, f, g, h] = X) := ⟨_, rfl⟩
   have hXl : X.length = 8 := by rw [<- HX.out]; rfl
   have HXa : Hid (#[Value.int .u32 a, .int .u32 b, .int .u32 c, .int .u32 d, .int .u32 e, .int .u32 f, .int .u32 g, .int .u32 h] = u32s X) := by rw [<- HX.out]; rfl
   have HM : Hid (mz H X 8 = mix H W) := by rw [<- HX.out]; unfold mix; rw [<- hs]; rfl
   have HXb : Hid (W32 a /\ W32 b) := ⟨hok.1, hok.2.1⟩
   clear hok hs hk HK hlt
   go_wp2
   rw [HXa.out]
   go_loopw [106] (fun i wr => ∃ k : Nat, k <= 8 /\ i = .int .i64 k /\ wr.heap[S]? = some (.cells (u32s (mz H X k)) 141 (0, 0)) /\ wr.heap[S + 2]? = some (.cells (fil [] 8) 141 (0, 0)) /\ Below S w wr) (fun i _ => 8 - (intOf i).toNat)
   case atStart => exact ⟨0, by omega, rfl, gH, gR, gB⟩
   case round =>
    clear gH gW gR gB HXa HX
    obtain ⟨k, hk, rfl, gH, gR, gB⟩ := hrel
    by_cases hlt : k < 8
    ·have hidx := fun wx => index43 X hXl k hlt wx
     have hc := u32_cell wr S k (mz H X k) _ _ gH (by rw [length_mz]; omega)
     rw [mz_far H X k k (Nat.le_refl _)] at hc
     have hf : wr.frozen? ⟨S, k, none⟩ = false := frozen_of_row wr _ _ _ 141 gH
     have hb := hHw k
     have HST : Hid ((wr.setCell ⟨S, k, none⟩ (.int .u32 ((H.getD k 0 + X.getD k 0) % 4294967296))).heap[S]? = some (.cells (u32s (mz H X (k + 1))) 141 (0, 0)) /\ Below S w (wr.setCell ⟨S, k, none⟩ (.int .u32 ((H.getD k 0 + X.getD k 0) % 4294967296))) /\ (wr.setCell ⟨S, k, none⟩ (.int .u32 ((H.getD k 0 + X.getD k 0) % 4294967296))).heap[S + 2]? = wr.heap[S + 2]?) := by
      refine ⟨?_, ⟨gB.os, gB.tape, gB.output, by simpa using gB.size, fun q hq => ?_⟩, heap_setCell_other wr ⟨S, k, none⟩ _ _ (fun e => by simp at e)⟩
      ·rw [heap_setCell_same wr S k _ 141 _ gH, u32s_set, mz]
      ·rw [heap_setCell_other wr ⟨S, k, none⟩ q _ (fun e => by simp at e; omega)]
       exact gB.block q hq
     generalize H.getD k 0 = z1 at hc hb HST
     generalize X.getD k 0 = z2 at hidx HST
     go_wp2
     go_roundw
     case rel =>
      obtain ⟨s1, s2, s3⟩ := HST.out
      exact ⟨k + 1, by omega, by go_num, s1, s3.trans gR, s2⟩
     case measure => simp [intOf]; omega
    ·obtain rfl : k = 8 := by omega
     rw [HM.out] at gH
     have hsz : (u32s (mix H W)).size = 8 := by rw [size_u32s, length_mix]; exact hH
     have hall := all_u32s (mix H W)
     obtain ⟨Y, HY⟩ : ∃ Y, Hid (mix H W = Y) := ⟨_, rfl⟩
     rw [HY.out] at gH hsz hall
     have HF : Hid _ := And.intro hsz (And.intro hall (And.intro gH (And.intro gR gB)))
     clear hsz hall gH gR gB
     go_wp2_with (first | (refine wpList_load_row rfl 141 _ rfl S rfl 141 (u32s Y) (0, 0) _ HF.out.2.2.1 Tryd.underlying141 rfl (by rw [HF.out.1]; kernel_rfl) ?_) | (refine wpList_store_row rfl 141 _ _ rfl (S + 2) (u32s Y) rfl rfl 141 (fil [] 8) HF.out.2.2.2.1 (by rw [HF.out.1]; kernel_rfl) (by rw [HF.out.1]; rfl) HF.out.2.1 ?_))
     (try simp only [Exit.inBlock, Exit.then])
     refine bodyPost_ret (results_cell_row (p := 4) (ty := 141) rfl _ _ (S + 2) 141 (u32s Y) (0, 0) _ rfl (setRow_heap _ _ _ _ _ _ HF.out.2.2.2.1) Tryd.underlying141 rfl (by rw [HF.out.1]; kernel_rfl)) rfl ?_
     exact ⟨by rw [HY.out], by rw [HS.out]; exact below_setRow HF.out.2.2.2.2 (by omega) _⟩
end Go.Proofs.YthfobaeafapbnaaDoor.Dig
namespace Go.Proofs.YthfobaeafapbnaaDoor.Dig.Plain
open Go.RowKit
def Bytes (w : World) (a : Option Addr) (len : Nat) (L : List Int) : Prop :=
 L.length = len /\ Byt L /\ (0 < len -> ∃ b off, a = some ⟨b, off, none⟩ /\ b < w.heap.size /\ ∀ i, i < len -> w.cell? ⟨b, off + i, none⟩ = some (.int .u8 (L.getD i 0)))
theorem Bytes.below {w w' : World} {a : Option Addr} {len : Nat} {L : List Int} (h : Bytes w a len L) (hb : Below w.heap.size w w') : Bytes w' a len L := by
 refine ⟨h.1, h.2.1, fun hp => ?_⟩
 obtain ⟨b, off, e, hlt, hc⟩ := h.2.2 hp
 exact ⟨b, off, e, Nat.lt_of_lt_of_le hlt hb.size, fun i hi => (hb.cell hlt).trans (hc i hi)⟩
structure But (G : Nat) (w w' : World) : Prop where
 os : w'.os = w.os
 tape : w'.tape = w.tape
 output : w'.output = w.output
 size : w.heap.size <= w'.heap.size
 block : ∀ k, k < w.heap.size -> k ≠ G -> w'.heap[k]? = w.heap[k]?
theorem But.refl (G : Nat) (w : World) : But G w w := ⟨rfl, rfl, rfl, Nat.le_refl _, fun _ _ _ => rfl⟩
theorem But.trans {G : Nat} {a b c : World} (h : But G a b) (k : But G b c) : But G a c :=
 ⟨k.os.trans h.os, k.tape.trans h.tape, k.output.trans h.output, Nat.le_trans h.size k.size, fun i hi hn => (k.block i (Nat.lt_of_lt_of_le hi h.size) hn).trans (h.block i hi hn)⟩
theorem But.of_below {G : Nat} {w w' : World} (h : Below w.heap.size w w') : But G w w' := ⟨h.os, h.tape, h.output, h.size, fun k hk _ => h.block k hk⟩
theorem But.drew {G : Nat} {w w' : World} (h : But G w w') : But G w w'.drew := ⟨h.os, h.tape, h.output, h.size, h.block⟩
theorem But.setCell {G : Nat} {w w' : World} (h : But G w w') (o : Nat) (v : Value) : But G w (w'.setCell ⟨G, o, none⟩ v) :=
 ⟨h.os, h.tape, h.output, by simpa using h.size, fun k hk hn => by rw [heap_setCell_other w' ⟨G, o, none⟩ k _ (fun e => hn e)]; exact h.block k hk hn⟩
theorem But.setRow {G : Nat} {w w' : World} (h : But G w w') (cs : Array Value) : But G w (w'.setRow G cs) :=
 ⟨h.os, h.tape, h.output, by simpa [World.setRow] using h.size, fun k hk hn => by rw [setRow_other w' G k cs hn]; exact h.block k hk hn⟩
theorem But.setCells {G : Nat} : ∀ (cs : List Value) (o : Nat) {w w' : World}, But G w w' -> But G w (w'.setCells G o cs)
 | [], _, _, _, h => h
 | v :: r, o, _, _, h => But.setCells r (o + 1) (h.setCell o v)
theorem But.cell {G : Nat} {w w' : World} (h : But G w w') {b off : Nat} (hb : b < w.heap.size) (hn : b ≠ G) : w'.cell? ⟨b, off, none⟩ = w.cell? ⟨b, off, none⟩ := by
 simp [World.cell?, h.block b hb hn]
theorem But.below {G B : Nat} {w w' : World} (h : But G w w') (hB : B <= G) (hB2 : B <= w.heap.size) : Below B w w' := ⟨h.os, h.tape, h.output, h.size, fun k hk => h.block k (by omega) (by omega)⟩
theorem setCells_row (g : Nat) (t : TypeId) : ∀ (cs : List Value) (o : Nat) (cur : List Value) (w : World), w.heap[g]? = some (.cells cur.toArray t (0, 0)) -> o + cs.length <= cur.length ->
  (w.setCells g o cs).heap[g]? = some (.cells (splice cur o cs).toArray t (0, 0))
 | [], o, cur, w, h, _ => by simpa [World.setCells, splice] using h
 | v :: r, o, cur, w, h, hl => by
  rw [World.setCells]
  have h1 : (w.setCell ⟨g, o, none⟩ v).heap[g]? = some (.cells (cur.set o v).toArray t (0, 0)) := by
   rw [heap_setCell_same w g o _ t _ h]; simp
  rw [setCells_row g t r (o + 1) (cur.set o v) _ h1 (by simp at hl ⊢; omega)]
  congr 3
  simp only [splice, List.length_cons] at *
  have ho : o < cur.length := by omega
  have hm : min o cur.length = o := by omega
  rw [List.take_set, List.drop_set_of_lt (by omega), List.take_add_one, List.set_append]
  simp [ho, hm, Nat.add_assoc, Nat.add_comm 1]
def gc (ws B : List Int) (held : Nat) (tot : Int) : List Value := ws.map (Value.int .u32) ++ (B.map (Value.int .u8) ++ [.int .i64 held, .int .u64 tot])
section
variable {ws B : List Int} (h8 : ws.length = 8) (h64 : B.length = 64)
include h8 h64
theorem length_gc (held : Nat) (tot : Int) : (gc ws B held tot).length = 74 := by simp [gc, h8, h64]
theorem gc_held (held : Nat) (tot : Int) : (gc ws B held tot)[72]? = some (.int .i64 held) := by
 simp [gc, h8, h64]
theorem gc_tot (held : Nat) (tot : Int) : (gc ws B held tot)[73]? = some (.int .u64 tot) := by
 simp [gc, h8, h64]
theorem gc_set72 (held held' : Nat) (tot : Int) : (gc ws B held tot).set 72 (.int .i64 held') = gc ws B held' tot := by
 simp [gc, h8, h64]
theorem gc_set73 (held : Nat) (tot tot' : Int) : (gc ws B held tot).set 73 (.int .u64 tot') = gc ws B held tot' := by
 simp [gc, h8, h64]
omit h64 in
theorem gc_words (held : Nat) (tot : Int) (i : Nat) (hi : i < 8) : (gc ws B held tot)[i]? = some (.int .u32 (ws.getD i 0)) := by
 simp [gc, List.getElem?_append, h8, hi]
theorem gc_last (held : Nat) (tot : Int) (i : Nat) (hi : i < 64) : (gc ws B held tot)[8 + i]? = some (.int .u8 (B.getD i 0)) := by
 simp [gc, List.getElem?_append, h8, h64, hi]
theorem gc_splice (held : Nat) (tot : Int) (o : Nat) (c : List Int) (hc : o + c.length <= 64) : splice (gc ws B held tot) (8 + o) (c.map (Value.int .u8)) = gc ws (splice B o c) held tot := by
 simp only [splice, gc, List.length_map, List.map_append, List.map_take, List.map_drop]
 rw [List.take_append, List.drop_append]
 simp only [List.length_map, h8]
 rw [List.take_of_length_le (by simp [h8]), List.drop_of_length_le (by simp [h8]; omega)]
 rw [show 8 + o - 8 = o by omega, show 8 + o + c.length - 8 = o + c.length by omega]
 rw [List.take_append_of_le_length (by simp [h64]; omega), List.drop_append_of_le_length (by simp [h64]; omega)]
 simp
omit h64 in
theorem gc_splice0 (held : Nat) (tot : Int) (vs : List Int) (hv : vs.length = 8) : splice (gc ws B held tot) 0 (vs.map (Value.int .u32)) = gc vs B held tot := by
 simp [splice, gc, hv, h8]
end
def blk (M : List Int) : Nat -> List Int
 | 0 => hh
 | n + 1 => mix (blk M n) (sched M (64 * n))
theorem wrd_hh : Wrd hh := by
 intro i
 by_cases h : i < 8
 ·have key : ∀ j : Fin 8, 0 <= hh.getD j.val 0 /\ hh.getD j.val 0 < 4294967296 := by decide +kernel
  exact key ⟨i, h⟩
 ·have e : hh.getD i 0 = 0 := by
   simp only [List.getD]
   rw [List.getElem?_eq_none (by show 8 <= i; omega)]; rfl
  rw [e]; simp [W32]
theorem length_blk (M : List Int) (n : Nat) : (blk M n).length = 8 := by
 induction n with
 | zero => rfl
 | succ n ih => rw [blk, length_mix, ih]
theorem wrd_blk (M : List Int) (n : Nat) : Wrd (blk M n) := by
 induction n with
 | zero => exact wrd_hh
 | succ n ih => exact wrd_mix _ _ ih
theorem blk_app (M L : List Int) (n : Nat) (h : 64 * n <= M.length) : blk (M ++ L) n = blk M n := by
 induction n with
 | zero => rfl
 | succ n ih =>
  rw [blk, blk, ih (by omega)]
  rw [sched_congr (M ++ L) M (64 * n) (64 * n) (fun i hi => getD_app_left _ _ _ (by omega))]
structure Inv (M ws B : List Int) (held : Nat) : Prop where
 h8 : ws.length = 8
 wrd : Wrd ws
 h64 : B.length = 64
 byt : Byt B
 hheld : held = M.length % 64
 hws : ws = blk M (M.length / 64)
 hB : ∀ i, i < held -> B.getD i 0 = M.getD (64 * (M.length / 64) + i) 0
theorem getD_splice (B c : List Int) (o i : Nat) (h : o + c.length <= B.length) : (splice B o c).getD i 0 = if i < o then B.getD i 0 else if i < o + c.length then c.getD (i - o) 0 else B.getD i 0 := by
 have hm : min o B.length = o := by omega
 simp only [splice, List.getD]
 by_cases h1 : i < o
 ·rw [if_pos h1, List.getElem?_append_left (by simp; omega), List.getElem?_take, if_pos h1]
 ·rw [if_neg h1, List.getElem?_append_right (by simp; omega)]
  simp only [List.length_take, hm]
  by_cases h2 : i < o + c.length
  ·rw [if_pos h2, List.getElem?_append_left (by omega)]
  ·rw [if_neg h2, List.getElem?_append_right (by omega), List.getElem?_drop]
   congr 2; omega
theorem byt_splice (B c : List Int) (o : Nat) (h : o + c.length <= B.length) (hB : Byt B) (hc : Byt c) : Byt (splice B o c) := by
 intro i
 rw [getD_splice B c o i h]
 split
 ·exact hB i
 ·split
  ·exact hc _
  ·exact hB i
theorem getD_app (M c : List Int) (i : Nat) : (M ++ c).getD i 0 = if i < M.length then M.getD i 0 else c.getD (i - M.length) 0 := by
 simp only [List.getD]
 split
 ·rw [List.getElem?_append_left (by assumption)]
 ·rw [List.getElem?_append_right (by omega)]
theorem Inv.part {M ws B : List Int} {held : Nat} (h : Inv M ws B held) (c : List Int) (hc : Byt c) (hl : held + c.length < 64) : Inv (M ++ c) ws (splice B held c) (held + c.length) := by
 obtain ⟨h8, wrd, h64, byt, hheld, hws, hB⟩ := h
 have e1 : (M.length + c.length) / 64 = M.length / 64 := by omega
 refine ⟨h8, wrd, by rw [length_splice _ _ _ (by omega)]; exact h64, byt_splice _ _ _ (by omega) byt hc, by simp; omega, ?_, fun i hi => ?_⟩
 ·rw [List.length_append, e1, blk_app M c _ (by omega)]; exact hws
 ·rw [getD_splice _ _ _ _ (by omega), List.length_append, e1, getD_app]
  by_cases h1 : i < held
  ·rw [if_pos h1, if_pos (by omega)]; exact hB i h1
  ·rw [if_neg h1, if_pos (by omega), if_neg (by omega)]; congr 1; omega
theorem Inv.full {M ws B : List Int} {held : Nat} (h : Inv M ws B held) (c : List Int) (hc : Byt c) (hl : held + c.length = 64) : Inv (M ++ c) (mix ws (sched (splice B held c) 0)) (splice B held c) 0 := by
 obtain ⟨h8, wrd, h64, byt, hheld, hws, hB⟩ := h
 have e1 : (M.length + c.length) / 64 = M.length / 64 + 1 := by omega
 have hs : sched (splice B held c) 0 = sched (M ++ c) (64 * (M.length / 64)) := by
  refine sched_congr _ _ _ _ (fun i hi => ?_)
  rw [Nat.zero_add, getD_splice _ _ _ _ (by omega), getD_app]
  by_cases h1 : i < held
  ·rw [if_pos h1, if_pos (by omega)]; exact hB i h1
  ·rw [if_neg h1, if_pos (by omega), if_neg (by omega)]; congr 1; omega
 have hb : blk (M ++ c) (M.length / 64) = ws := by rw [blk_app M c _ (by omega), hws]
 have hz : 0 = (M ++ c).length % 64 := by rw [List.length_append]; omega
 have hw : mix ws (sched (splice B held c) 0) = blk (M ++ c) ((M ++ c).length / 64) := by rw [List.length_append, e1, blk, hb, hs]
 exact ⟨by rw [length_mix]; exact h8, wrd_mix _ _ wrd, by rw [length_splice _ _ _ (by omega)]; exact h64, byt_splice _ _ _ (by omega) byt hc, hz, hw, fun i hi => absurd hi (Nat.not_lt_zero i)⟩
theorem Inv.start : Inv [] hh (List.replicate 64 0) 0 where
 h8 := rfl
 wrd := wrd_hh
 h64 := by simp
 byt := fun i => by
  simp only [List.getD, List.getElem?_replicate]
  split <;> simp
 hheld := by simp
 hws := by rw [List.length_nil, Nat.zero_div, blk]
 hB := fun i hi => absurd hi (by omega)
end Go.Proofs.YthfobaeafapbnaaDoor.Dig.Plain
