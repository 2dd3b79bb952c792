/-
  What Get of package record answers.
-/
import Derived.Test.YtgdjdlakndajgaaR3
namespace Go.Proofs.Ytgdjdlakndajgaa
set_option linter.unusedVariables false
open Go.RowKit Plain

theorem get_k (a : Option Addr) (cap : Nat) (L : List Int) (p : Nat) (p' : Int) (w : World) (hb : Bytes w a 176 L) (hp : p + 8 ≤ 176) (he : p' = (p : Int)) :
    Calls Try.prog 25 #[.slice a 176 cap, .int .i64 p', .int .i64 8] w fun e w' => e = .returned (.tuple #[.int .u64 (num L p 8), .int .i64 0]) ∧ w = w' := by
  subst he
  exact get_ok a 176 cap L p 8 w hb (by decide) (by omega) (by omega) hp
theorem results_row2 {fn : Func} {ty : TypeId} {t u : Tmp} (h : fn.results = #[.cell t ty, .tmp u]) (d : TypeDesc) (hu : Try.prog.underlying ty = some d) (hd : d.isRow = true) (tmps : Array Value) (w : World) (b : Nat) (cs : Array Value) (hi : (Try.prog.info? ty).map (·.size) = some cs.size) (ht : tmps.getD t undef = .pointer (some ⟨b, 0, none⟩)) (hg : w.heap[b]? = some (.cells cs ty (0, 0))) :
    (results fn tmps).run Try.prog w = .ok (.tuple #[.agg cs, tmps.getD u undef]) w := by
  have hl := run_loadVar_mid (P := Try.prog) w b 0 ty cs.toList d (range_arr hg _ (fun j v hv => by simpa using hv)) hu hd (by simpa using hi)
  rw [results_cell_tmp h, ht]
  simp [asAddr, hl]
theorem but_setRow (w : World) (g : Nat) (cs : Array Value) : But g w (w.setRow g cs) := ⟨rfl, rfl, rfl, by simp [World.setRow], fun k _ hn => setRow_other w g k cs hn⟩
def zrc : Rc := ⟨⟨0, none, 0, 0, []⟩, false⟩
theorem built_R0 : Try.prog.built 30 [] = some (rcc zrc).toArray := by kernel_rfl
theorem built_Rc (b : Int) (a : Option Addr) (l c : Nat) (x : Bool) : Try.prog.built 30 [(0, .agg #[.int .u64 b, .slice a l c]), (1, .bool x)] = some #[.int .u64 b, .slice a l c, .bool x] := by kernel_rfl
theorem all_rcc (r : Rc) : (rcc r).toArray.all (·.oneCell') = true := by simp [rcc, Value.oneCell']
/-- Whether bytes are a record's. -/
def fitR (L : List Int) : Prop := L.length = 176 ∧ (num L 0 8 = 1 ∨ num L 0 8 = 257)
set_option maxHeartbeats 1000000 in
theorem rcget_no (a : Option Addr) (len cap : Nat) (L : List Int) (w : World) (h : Bytes w a len L) (hl : len ≤ maxLen) (hc : len ≤ cap) (hn : ¬ fitR L) :
    Calls Try.prog 13 #[.slice a len cap] w fun e w' => e = .returned (.tuple #[.agg (rcc zrc).toArray, .int .i64 11]) ∧ Below w.heap.size w w' := by
  unfold maxLen at hl
  obtain ⟨S, hS⟩ : ∃ S, w.heap.size = S := ⟨_, rfl⟩
  obtain ⟨w1, hw1⟩ : ∃ w1, w.alloc (.cells #[.int .u64 0, .slice none 0 0, .bool false] 30) = w1 := ⟨_, rfl⟩
  have hb1 : Below w.heap.size w w1 := by rw [← hw1]; exact (Below.refl _ _).alloc (Nat.le_refl _) _
  have r1 : w1.heap[S]? = some (.cells (rcc zrc).toArray 30 (0, 0)) := by rw [← hw1]; exact al_at hS
  have HR : Box _ := ⟨r1⟩
  have HB : Box (Below w.heap.size w w1 ∧ w.heap.size = S) := ⟨hb1, hS⟩
  by_cases h176 : len = 176
  · subst h176
    have hx : ((num L 0 8 : Int) != 1) = true ∧ ((num L 0 8 : Int) != 257) = true := by
      constructor
      · simp; exact fun e => hn ⟨h.1, .inl e⟩
      · simp; exact fun e => hn ⟨h.1, .inr e⟩
    obtain ⟨z, hz⟩ : ∃ z, num L 0 8 = z := ⟨_, rfl⟩
    have HG : Box (Calls Try.prog 25 #[.slice a 176 cap, .int .i64 0, .int .i64 8] w1 fun e w' => e = .returned (.tuple #[.int .u64 z, .int .i64 0]) ∧ w1 = w') := ⟨hz ▸ get_k a cap L 0 0 w1 (h.below hb1) (by omega) rfl⟩
    rw [hz] at hx
    obtain ⟨hx1, hx2⟩ := hx
    clear hb1 r1 h hn hz
    go_enter Try.func13, Try.ntmps13
    go_upto_region 1 with (refine atAlloc _ ?_; refine wpList_run rfl _ _ (exec_alloc 30 rfl _ zeroRc) ?_)
    (try simp only [hw1, hS])
    go_wp2_with (first
      | (go_at_call 25; refine HG.out.mono ?_; rintro e x1 ⟨rfl, rfl⟩)
      | (refine atBuild _ ?_; refine wpList_run rfl _ _ (exec_built 30 [] rfl [] rfl _ built_R0) ?_)
      | (refine atStore _ ?_; refine wpList_store_row rfl 30 _ _ rfl S (rcc zrc).toArray rfl rfl 30 (rcc zrc).toArray HR.out infoRc rfl (all_rcc zrc) ?_))
    refine bodyPost_ret (results_row2 (t := 2) (u := 3) rfl _ Try.underlying30 rfl _ _ S (rcc zrc).toArray infoRc rfl (setRow_heap _ _ _ _ _ _ HR.out)) rfl ?_
    exact ⟨rfl, below_setRow HB.out.1 (Nat.le_of_eq HB.out.2) _⟩
  · have hx1 : ((len : Int) != 176) = true := by simp; omega
    clear hb1 r1 h hn h176
    go_enter Try.func13, Try.ntmps13
    go_upto_region 1 with (refine atAlloc _ ?_; refine wpList_run rfl _ _ (exec_alloc 30 rfl _ zeroRc) ?_)
    (try simp only [hw1, hS])
    go_wp2_with (first
      | (refine atBuild _ ?_; refine wpList_run rfl _ _ (exec_built 30 [] rfl [] rfl _ built_R0) ?_)
      | (refine atStore _ ?_; refine wpList_store_row rfl 30 _ _ rfl S (rcc zrc).toArray rfl rfl 30 (rcc zrc).toArray HR.out infoRc rfl (all_rcc zrc) ?_))
    refine bodyPost_ret (results_row2 (t := 2) (u := 3) rfl _ Try.underlying30 rfl _ _ S (rcc zrc).toArray infoRc rfl (setRow_heap _ _ _ _ _ _ HR.out)) rfl ?_
    exact ⟨rfl, below_setRow HB.out.1 (Nat.le_of_eq HB.out.2) _⟩
/-- The record of bytes. -/
def getP (L : List Int) : (Int × List Int) × Bool := ((num L 8 8, L.drop 16), decide (num L 0 8 = 257))
set_option maxHeartbeats 1000000 in
theorem rcget_ok (a : Option Addr) (cap : Nat) (L : List Int) (w : World) (h : Bytes w a 176 L) (hc : 176 ≤ cap) (hn : fitR L) :
    Calls Try.prog 13 #[.slice a 176 cap] w fun e w' => ∃ r, e = .returned (.tuple #[.agg (rcc r).toArray, .int .i64 0]) ∧ rpl r = getP L ∧ r.m.bl = 160 ∧ OIm w' w.heap.size r.m ∧ Below w.heap.size w w' := by
  obtain ⟨S, hS⟩ : ∃ S, w.heap.size = S := ⟨_, rfl⟩
  obtain ⟨w1, hw1⟩ : ∃ w1, w.alloc (.cells #[.int .u64 0, .slice none 0 0, .bool false] 30) = w1 := ⟨_, rfl⟩
  have hb1 : Below w.heap.size w w1 := by rw [← hw1]; exact (Below.refl _ _).alloc (Nat.le_refl _) _
  have hs1 : w1.heap.size = S + 1 := by rw [← hw1]; simp [hS]
  have r1 : w1.heap[S]? = some (.cells (rcc zrc).toArray 30 (0, 0)) := by rw [← hw1]; exact al_at hS
  have HR : Box (∀ x, Below w1.heap.size w1 x → x.heap[S]? = some (.cells (rcc zrc).toArray 30 (0, 0))) := ⟨fun x hx => (hx.block S (by omega)).trans r1⟩
  have HB : Box (Below w.heap.size w w1 ∧ w.heap.size = S ∧ w1.heap.size = S + 1) := ⟨hb1, hS, hs1⟩
  obtain ⟨z, hz⟩ : ∃ z, num L 0 8 = z := ⟨_, rfl⟩
  obtain ⟨q, hq⟩ : ∃ q, num L 8 8 = q := ⟨_, rfl⟩
  have hqb : N64 q := by
    have := num_bd L 8 h.2.1 8
    rw [hq] at this
    exact ⟨this.1, by omega⟩
  have HG : Box (Calls Try.prog 25 #[.slice a 176 cap, .int .i64 0, .int .i64 8] w1 fun e w' => e = .returned (.tuple #[.int .u64 z, .int .i64 0]) ∧ w1 = w') := ⟨hz ▸ get_k _ cap L 0 0 w1 (h.below hb1) (by omega) rfl⟩
  have HG2 : Box (Calls Try.prog 25 #[.slice a 176 cap, .int .i64 8, .int .i64 8] w1 fun e w' => e = .returned (.tuple #[.int .u64 q, .int .i64 0]) ∧ w1 = w') := ⟨hq ▸ get_k _ cap L 8 8 w1 (h.below hb1) (by omega) rfl⟩
  obtain ⟨bb, oo, hae, hlt, hcl⟩ := h.2.2 (by omega)
  subst hae
  have hcn : ¬ cap = 16 := by omega
  have hby : Bytes w1 (some ⟨bb, oo + 16, none⟩) 160 (L.drop 16) := ⟨by rw [List.length_drop, h.1], byt_drop L 16 h.2.1, fun _ => ⟨bb, oo + 16, rfl, Nat.lt_of_lt_of_le hlt hb1.size, fun i hi => by
    have e := hcl (16 + i) (by omega)
    rw [hb1.cell hlt, show oo + 16 + i = oo + (16 + i) by omega, e]
    simp [List.getD, List.getElem?_drop]⟩⟩
  have HO : Box (Calls Try.prog 26 #[.agg #[.int .u64 q, .slice (some ⟨bb, oo + 16, none⟩) 160 (cap - 16)]] w1 fun e w' => ∃ m', e = .returned (.agg (imc m').toArray) ∧ Owned w1 w' ⟨q, some ⟨bb, oo + 16, none⟩, 160, cap - 16, L.drop 16⟩ m') := ⟨own_any ⟨q, some ⟨bb, oo + 16, none⟩, 160, cap - 16, L.drop 16⟩ w1 hby hqb (by show (160 : Nat) < 1000000; decide)⟩
  have HP : Box (getP L = ((q, L.drop 16), decide (z = 257))) := ⟨by rw [getP, hq, hz]⟩
  obtain ⟨b, hzb⟩ : ∃ b, (z == 257) = b := ⟨_, rfl⟩
  have HZB : Box (decide (z = 257) = b) := ⟨by rw [← hzb]; rfl⟩
  have hfit : z = 1 ∨ z = 257 := hz ▸ hn.2
  have key : ∀ (hx1 : (z != 1) = true ∧ (z != 257) = false ∨ (z != 1) = false), Calls Try.prog 13 #[.slice (some ⟨bb, oo, none⟩) 176 cap] w fun e w' => ∃ r, e = .returned (.tuple #[.agg (rcc r).toArray, .int .i64 0]) ∧ rpl r = getP L ∧ r.m.bl = 160 ∧ OIm w' w.heap.size r.m ∧ Below w.heap.size w w' := by
    intro hx1
    clear hb1 r1 h hn hz hq hby hfit hqb hs1 hlt hcl
    have hx2 : (z != 1 && z != 257) = false := by rcases hx1 with ⟨h1, h2⟩ | h1 <;> simp [*]
    rcases hx1 with ⟨hx1, hx3⟩ | hx1
    all_goals
      clear hx2
      go_enter Try.func13, Try.ntmps13
      go_upto_region 1 with (refine atAlloc _ ?_; refine wpList_run rfl _ _ (exec_alloc 30 rfl _ zeroRc) ?_)
      (try simp only [hw1, hS])
      go_upto_region 6 with (go_at_call 25; refine HG.out.mono ?_; rintro e x1 ⟨rfl, rfl⟩)
      go_upto_region 7 with (go_at_call 25; refine HG2.out.mono ?_; rintro e x1 ⟨rfl, rfl⟩)
      go_wp2_with (first
        | (refine atBuild 25 ?_; refine wpList_run rfl _ _ (exec_built 25 [(0, .tmp 29), (1, .tmp 31)] rfl [(0, .int .u64 q), (1, .slice (some ⟨bb, oo + 16, none⟩) 160 (cap - 16))] rfl _ (built_Im _ _ _ _)) ?_)
        | (refine atBuild 30 ?_; refine wpList_run rfl _ _ (exec_built 30 [(0, .tmp 33), (1, .tmp 35)] rfl [(0, .agg #[.int .u64 mb, .slice ma ml mc]), (1, .bool b)] rfl _ (built_Rc _ _ _ _ _)) ?_)
        | (refine atStore _ ?_; refine wpList_store_row rfl 30 _ _ rfl S #[.int .u64 mb, .slice ma ml mc, .bool b] rfl rfl 30 (rcc zrc).toArray HRX.out infoRc rfl (by simp [Value.oneCell']) ?_)
        | (go_at_call 26; refine HO.out.mono ?_; rintro e x1 ⟨⟨mb, ma, ml, mc, ms⟩, rfl, hO⟩; have HX : Box (Owned w1 x1 ⟨q, some ⟨bb, oo + 16, none⟩, 160, cap - 16, L.drop 16⟩ ⟨mb, ma, ml, mc, ms⟩) := ⟨hO⟩; have HRX : Box _ := ⟨HR.out x1 hO.2.2.2⟩; clear hO))
      refine bodyPost_ret (results_row2 (t := 2) (u := 3) rfl _ Try.underlying30 rfl _ _ S #[.int .u64 mb, .slice ma ml mc, .bool b] infoRc rfl (setRow_heap _ _ _ _ _ _ HRX.out)) rfl ?_
      obtain ⟨h1, h2, h3, h4⟩ := HX.out
      refine ⟨⟨⟨mb, ma, ml, mc, ms⟩, b⟩, rfl, ?_, h2, ?_, below_setRow (below_to HB.out.1 h4) (Nat.le_of_eq HB.out.2.1) _⟩
      · rw [HP.out, HZB.out]
        show (pl _, b) = _
        rw [h1]
        rfl
      · refine ⟨own_low2 (own_same h3.own (fun k hk => ?_)) (by have := HB.out; omega), h3.byt, h3.num⟩
        have hk1 := (h3.own.lt k hk).1
        exact (but_setRow x1 S _).block k (h3.own.lt k hk).2 (by have := HB.out.2.2; omega)
  rcases hfit with rfl | rfl
  · exact key (.inr rfl)
  · exact key (.inl ⟨rfl, rfl⟩)
end Go.Proofs.Ytgdjdlakndajgaa
