/-
  What opened of package replay answers. And what follows it.
-/
import Derived.Test.YtjdcccdkddnkgaaGreatDoorQ33
import Derived.Test.YtjdcccdkddnkgaaGreatDoorQ29
import Derived.Test.YtjdcccdkddnkgaaGreatDoorQ32
namespace Go.Proofs.YtjdcccdkddnkgaaGreatDoor
set_option maxRecDepth 100000
set_option linter.unusedVariables false
set_option maxRecDepth 100000
open Go.RowKit Plain
attribute [local go_sem] Oper.semAt_some
/-- Whether a slot is a record's, and the record. -/
def Opn (K : List Int) (x : Nat × List Int) : Prop := Seal.Fit x.2 176 ∧ fitR (Seal.op K (x.1 : Int) x.2 176)
def opR (K : List Int) (x : Nat × List Int) : (Int × List Int) × Bool := getP (Seal.op K (x.1 : Int) x.2 176)
theorem all_rc0 : (rcc zrc).toArray.all (·.oneCell') = true := all_rcc zrc
set_option maxHeartbeats 4000000 in
theorem opened_v {w : World} {B : Nat} {x : Sl} (h : OSl w B x) (hT : Seal.Tab w) (K : List Int) (hK : K.length = 32 ∧ Byt K) :
    Calls Tryz.prog 86 #[.agg (u8s K), .agg (stc x).toArray] w fun e w' => ((¬ Opn K (spl x) ∧ e = .returned (.tuple #[.agg (rcc zrc).toArray, .int .i64 11])) ∨ (Opn K (spl x) ∧ ∃ r, e = .returned (.tuple #[.agg (rcc r).toArray, .int .i64 0]) ∧ rpl r = opR K (spl x) ∧ r.m.bl = 160 ∧ OIm w' w.heap.size r.m)) ∧ Below w.heap.size w w' := by
  obtain ⟨S, hS⟩ : ∃ S, w.heap.size = S := ⟨_, rfl⟩
  obtain ⟨AK, hAK⟩ : ∃ A, u8s K = A := ⟨_, rfl⟩
  obtain ⟨p, g, bs⟩ := x
  have hbs := h.bytes
  have hpl : p ≤ 4096 := h.pl
  dsimp only at hbs
  simp only [stc, hAK]
  obtain ⟨w1, hw1⟩ : ∃ w1, ((w.alloc (.cells AK 23)).alloc (.cells #[.int .u32 (p : Int), .slice (some ⟨g, 0, none⟩) 192 192] 172)).alloc (.cells (rcc zrc).toArray 101) = w1 := ⟨_, rfl⟩
  have hb1 : Below w.heap.size w w1 := by rw [← hw1]; exact (((Below.refl _ _).alloc (Nat.le_refl _) _).alloc (by simp) _).alloc (by simp; omega) _
  have k1 : w1.heap[S]? = some (.cells AK 23 (0, 0)) := by rw [← hw1]; exact al_old (al_old (al_at hS))
  have k2 : w1.heap[S + 1]? = some (.cells #[.int .u32 (p : Int), .slice (some ⟨g, 0, none⟩) 192 192] 172 (0, 0)) := by rw [← hw1]; exact al_old (al_at (by simp [hS]))
  have k3 : w1.heap[S + 2]? = some (.cells (rcc zrc).toArray 101 (0, 0)) := by rw [← hw1]; exact al_at (by simp [hS])
  have hs1 : w1.heap.size = S + 3 := by rw [← hw1]; simp [hS]
  have c0 : w1.cell? ⟨S + 1, 0, none⟩ = some (.int .u32 (p : Int)) := by rw [cell_of_row _ _ _ _ _ _ k2]; rfl
  have c1 : w1.cell? ⟨S + 1, 1, none⟩ = some (.slice (some ⟨g, 0, none⟩) 192 192) := by rw [cell_of_row _ _ _ _ _ _ k2]; rfl
  have HRK : Box (w1.rangeAt S 0 (K.map (Value.int .u8)) ∧ (Tryz.prog.info? 23).map (·.size) = some (K.map (Value.int .u8)).length ∧ (K.map (Value.int .u8)).toArray = AK) := ⟨by rw [← hAK] at k1; exact range_u8 k1, by rw [List.length_map, hK.1]; exact infoSum, by rw [← hAK]; rfl⟩
  have H3 : Box (∀ y, Below w1.heap.size w1 y → y.heap[S + 2]? = some (.cells (rcc zrc).toArray 101 (0, 0))) := ⟨fun y hy => (hy.block (S + 2) (by omega)).trans k3⟩
  have HB : Box (Below w.heap.size w w1 ∧ w.heap.size = S ∧ w1.heap.size = S + 3) := ⟨hb1, hS, hs1⟩
  have hs2 : (w.alloc (.cells AK 23)).heap.size = S + 1 := by simp [hS]
  have hs3 : ((w.alloc (.cells AK 23)).alloc (.cells #[.int .u32 (p : Int), .slice (some ⟨g, 0, none⟩) 192 192] 172)).heap.size = S + 2 := by simp [hS]
  by_cases hf : Seal.Fit bs 176
  · have HOP : Box (Calls Tryz.prog 105 #[.agg AK, .int .u32 (p : Int), .slice (some ⟨g, 0, none⟩) 192 192, .int .i64 176] w1 fun e w' => ∃ a', e = .returned (.tuple #[.int .u64 (num bs 0 8), .slice a' 176 176, .int .i64 0]) ∧ Bytes w' a' 176 (Seal.op K (p : Int) bs 176) ∧ Below w1.heap.size w1 w') := ⟨by
      have := Seal.open_ok K bs (p : Int) 176 (some ⟨g, 0, none⟩) 192 w1 (hT.below hb1) hK.1 hK.2 ⟨by omega, by omega⟩ (.inr rfl) (hbs.below hb1) (by omega) hf
      rw [hAK] at this
      exact this⟩
    obtain ⟨O, hO⟩ : ∃ O, Seal.op K (p : Int) bs 176 = O := ⟨_, rfl⟩
    rw [hO] at HOP
    generalize num bs 0 8 = ver at HOP
    by_cases hr : fitR O
    · have HGE : Box (∀ y a', Bytes y a' 176 O → Calls Tryz.prog 106 #[.slice a' 176 176] y fun e w' => ∃ r, e = .returned (.tuple #[.agg (rcc r).toArray, .int .i64 0]) ∧ rpl r = getP O ∧ r.m.bl = 160 ∧ OIm w' y.heap.size r.m ∧ Below y.heap.size y w') := ⟨fun y a' hy => rcget_ok a' 176 O y hy (by omega) hr⟩
      have HO : Box (Opn K (spl ⟨p, g, bs⟩) ∧ opR K (spl ⟨p, g, bs⟩) = getP O) := ⟨⟨hf, by show fitR (Seal.op K (p : Int) bs 176); rw [hO]; exact hr⟩, by show getP (Seal.op K (p : Int) bs 176) = _; rw [hO]⟩
      clear h hbs hb1 k1 k2 k3 hs1 hS hAK hK hT hf hr hO
      go_enter Tryz.func86, Tryz.ntmps86
      go_upto_region 1 with (refine atAlloc _ ?_; refine wpList_run rfl _ _ (exec_alloc 101 rfl _ zeroRc) ?_)
      (try rw [hs3])
      (try rw [hs2])
      (try simp only [HB.out.2.1])
      rw [show (w.alloc (.cells AK 23) |>.alloc (.cells #[.int .u32 (p : Int), .slice (some ⟨g, 0, none⟩) 192 192] 172) |>.alloc (.cells #[.int .u64 0, .slice none 0 0, .bool false] 101)) = w1 from hw1]
      clear hs2 hs3 hw1
      go_upto_region 4 with (first
        | (refine atLoad 23 ?_; refine wpList_ldMid rfl 23 _ _ rfl Tryz.underlying23 rfl S 0 rfl (K.map (Value.int .u8)) HRK.out.2.1 HRK.out.1 ?_; rw [HRK.out.2.2])
        | (go_at_call 105; refine HOP.out.mono ?_; rintro e x2 ⟨a', rfl, hby, hb⟩; have H2 : Box (Bytes x2 a' 176 O ∧ Below w1.heap.size w1 x2) := ⟨hby, hb⟩; clear hby hb))
      have HG2 : Box _ := ⟨HGE.out x2 a' H2.out.1⟩
      go_wp2_with (first
        | (go_at_call 106; refine HG2.out.mono ?_; rintro e x3 ⟨⟨⟨mb, ma, ml, mc, ms⟩, b⟩, rfl, q1, q2, q3, q4⟩; have HX : Box (rpl ⟨⟨mb, ma, ml, mc, ms⟩, b⟩ = getP O ∧ ml = 160 ∧ OIm x3 x2.heap.size ⟨mb, ma, ml, mc, ms⟩ ∧ Below w1.heap.size w1 x3 ∧ x3.heap[S + 2]? = some (.cells (rcc zrc).toArray 101 (0, 0))) := ⟨q1, q2, q3, below_to H2.out.2 q4, H3.out x3 (below_to H2.out.2 q4)⟩; simp only [rcc]; clear q1 q2 q3 q4)
        | (refine atStore _ ?_; refine wpList_store_row rfl 101 _ _ rfl (S + 2) #[.int .u64 mb, .slice ma ml mc, .bool b] rfl rfl 101 (rcc zrc).toArray HX.out.2.2.2.2 infoRc rfl (by simp [Value.oneCell']) ?_))
      refine bodyPost_ret (results_row2 (t := 4) (u := 5) rfl _ Tryz.underlying101 rfl _ _ (S + 2) #[.int .u64 mb, .slice ma ml mc, .bool b] infoRc rfl (setRow_heap _ _ _ _ _ _ HX.out.2.2.2.2)) rfl ?_
      have hbb := HB.out
      refine ⟨.inr ⟨HO.out.1, ⟨⟨mb, ma, ml, mc, ms⟩, b⟩, rfl, by rw [HO.out.2]; exact HX.out.1, HX.out.2.1, ?_⟩, below_setRow (below_to hbb.1 HX.out.2.2.2.1) (by omega) _⟩
      have o := HX.out.2.2.1
      have hz := H2.out.2.size
      refine ⟨own_low2 (own_same o.own (fun k hk => ?_)) (by omega), o.byt, o.num⟩
      have hk1 := (o.own.lt k hk).1
      exact (but_setRow x3 (S + 2) _).block k (o.own.lt k hk).2 (by omega)
    · have HGE : Box (∀ y a', Bytes y a' 176 O → Calls Tryz.prog 106 #[.slice a' 176 176] y fun e w' => e = .returned (.tuple #[.agg (rcc zrc).toArray, .int .i64 11]) ∧ Below y.heap.size y w') := ⟨fun y a' hy => rcget_no a' 176 176 O y hy (by unfold maxLen; omega) (by omega) hr⟩
      have HO : Box (¬ Opn K (spl ⟨p, g, bs⟩)) := ⟨fun hq => hr (by rw [← hO]; exact hq.2)⟩
      clear h hbs hb1 k1 k2 k3 hs1 hS hAK hK hT hf hr hO
      go_enter Tryz.func86, Tryz.ntmps86
      go_upto_region 1 with (refine atAlloc _ ?_; refine wpList_run rfl _ _ (exec_alloc 101 rfl _ zeroRc) ?_)
      (try rw [hs3])
      (try rw [hs2])
      (try simp only [HB.out.2.1])
      rw [show (w.alloc (.cells AK 23) |>.alloc (.cells #[.int .u32 (p : Int), .slice (some ⟨g, 0, none⟩) 192 192] 172) |>.alloc (.cells #[.int .u64 0, .slice none 0 0, .bool false] 101)) = w1 from hw1]
      clear hs2 hs3 hw1
      go_upto_region 4 with (first
        | (refine atLoad 23 ?_; refine wpList_ldMid rfl 23 _ _ rfl Tryz.underlying23 rfl S 0 rfl (K.map (Value.int .u8)) HRK.out.2.1 HRK.out.1 ?_; rw [HRK.out.2.2])
        | (go_at_call 105; refine HOP.out.mono ?_; rintro e x2 ⟨a', rfl, hby, hb⟩; have H2 : Box (Bytes x2 a' 176 O ∧ Below w1.heap.size w1 x2) := ⟨hby, hb⟩; clear hby hb))
      have HG2 : Box _ := ⟨HGE.out x2 a' H2.out.1⟩
      go_wp2_with (first
        | (go_at_call 106; refine HG2.out.mono ?_; rintro e x3 ⟨rfl, q4⟩; have HX : Box (Below w1.heap.size w1 x3 ∧ x3.heap[S + 2]? = some (.cells (rcc zrc).toArray 101 (0, 0))) := ⟨below_to H2.out.2 q4, H3.out x3 (below_to H2.out.2 q4)⟩; clear q4)
        | (refine atStore _ ?_; refine wpList_store_row rfl 101 _ _ rfl (S + 2) (rcc zrc).toArray rfl rfl 101 (rcc zrc).toArray HX.out.2 infoRc rfl all_rc0 ?_))
      refine bodyPost_ret (results_row2 (t := 4) (u := 5) rfl _ Tryz.underlying101 rfl _ _ (S + 2) (rcc zrc).toArray infoRc rfl (setRow_heap _ _ _ _ _ _ HX.out.2)) rfl ?_
      have hbb := HB.out
      exact ⟨.inl ⟨HO.out, rfl⟩, below_setRow (below_to hbb.1 HX.out.1) (by omega) _⟩
  · have HOP : Box (Calls Tryz.prog 105 #[.agg AK, .int .u32 (p : Int), .slice (some ⟨g, 0, none⟩) 192 192, .int .i64 176] w1 fun e w' => e = .returned (.tuple #[.int .u64 0, .slice none 0 0, .int .i64 11]) ∧ Below w1.heap.size w1 w') := ⟨by
      have := Seal.open_form K bs (p : Int) 176 (some ⟨g, 0, none⟩) 192 w1 (.inr rfl) (hbs.below hb1) (by omega) hf
      rw [hAK] at this
      exact this⟩
    have HO : Box (¬ Opn K (spl ⟨p, g, bs⟩)) := ⟨fun hq => hf hq.1⟩
    clear h hbs hb1 k1 k2 k3 hs1 hS hAK hK hT hf
    go_enter Tryz.func86, Tryz.ntmps86
    go_upto_region 1 with (refine atAlloc _ ?_; refine wpList_run rfl _ _ (exec_alloc 101 rfl _ zeroRc) ?_)
    (try rw [hs3])
    (try rw [hs2])
    (try simp only [HB.out.2.1])
    rw [show (w.alloc (.cells AK 23) |>.alloc (.cells #[.int .u32 (p : Int), .slice (some ⟨g, 0, none⟩) 192 192] 172) |>.alloc (.cells #[.int .u64 0, .slice none 0 0, .bool false] 101)) = w1 from hw1]
    clear hs2 hs3 hw1
    go_upto_region 3 with (first
      | (refine atLoad 23 ?_; refine wpList_ldMid rfl 23 _ _ rfl Tryz.underlying23 rfl S 0 rfl (K.map (Value.int .u8)) HRK.out.2.1 HRK.out.1 ?_; rw [HRK.out.2.2])
      | (go_at_call 105; refine HOP.out.mono ?_; rintro e x2 ⟨rfl, hb⟩; have H2 : Box (Below w1.heap.size w1 x2 ∧ x2.heap[S + 2]? = some (.cells (rcc zrc).toArray 101 (0, 0))) := ⟨hb, H3.out x2 hb⟩; clear hb))
    go_wp2_with (first
      | (refine atBuild 101 ?_; refine wpList_run rfl _ _ (exec_built 101 [] rfl [] rfl _ built_R0) ?_)
      | (refine atStore _ ?_; refine wpList_store_row rfl 101 _ _ rfl (S + 2) (rcc zrc).toArray rfl rfl 101 (rcc zrc).toArray H2.out.2 infoRc rfl all_rc0 ?_))
    refine bodyPost_ret (results_row2 (t := 4) (u := 5) rfl _ Tryz.underlying101 rfl _ _ (S + 2) (rcc zrc).toArray infoRc rfl (setRow_heap _ _ _ _ _ _ H2.out.2)) rfl ?_
    have hbb := HB.out
    exact ⟨.inl ⟨HO.out, rfl⟩, below_setRow (below_to hbb.1 H2.out.1) (by omega) _⟩
end Go.Proofs.YtjdcccdkddnkgaaGreatDoor
namespace Go.Proofs.YtjdcccdkddnkgaaGreatDoor
set_option maxRecDepth 100000
set_option linter.unusedVariables false
open Go.RowKit Plain
theorem exec_cut3 {o : Oper} {a : Act} {w' : World} (x l h m : Operand) (ho : o.op = .slice 47 x (some l) (some h) (some m)) (g n lo hi : Nat) (hx : a.eval x = .slice (some ⟨g, 0, none⟩) n n) (hl : a.eval l = .int .i64 (lo : Int)) (hh : a.eval h = .int .i64 (hi : Int)) (hm : a.eval m = .int .i64 (hi : Int)) (h1 : lo < hi) (h2 : hi ≤ n) :
    (execOp a.eval o).run Tryz.prog w' = .ok (.value (.slice (some ⟨g, lo * 2, none⟩) (hi - lo) (hi - lo))) w' := by
  have hu : Tryz.prog.underlying 47 = some (.slice (Tryz.prog.elem 47)) := by kernel_rfl
  have hs : (sizeOf (Tryz.prog.elem 47)).run Tryz.prog w' = .ok 2 w' := by kernel_rfl
  have hr : (Instr.sliceAt 47 (.slice (some ⟨g, 0, none⟩) n n) (some (.int .i64 (lo : Int))) (some (.int .i64 (hi : Int))) (some (.int .i64 (hi : Int)))).run Tryz.prog w' = .ok (.slice (some ⟨g, lo * 2, none⟩) (hi - lo) (hi - lo)) w' := by
    rw [run_sliceAt_slice (P := Tryz.prog) w' 47 _ _ _ _ hu, run_slice_lhm (P := Tryz.prog) w' 47 _ n n hu .i64 .i64 .i64 (lo : Int) (hi : Int) (hi : Int) (by omega) (by omega) (by omega) (by omega), hs, Result.andThen_ok, sliced]
    have hne : ¬ hi - lo = 0 := by omega
    simp [Addr.add_lit]
    intro hh; omega
  unfold execOp
  simp only [ho, hx, hl, hh, hm, Option.map_some, Sem.run_bind, Sem.run_pure, hr, Result.andThen_ok]
/-- The changes of records. -/
def chSt (s : List (List (Int × List Int)) × List (Int × List Int)) (x : (Int × List Int) × Bool) : List (List (Int × List Int)) × List (Int × List Int) := if x.2 = true then (s.1 ++ [s.2 ++ [x.1]], []) else (s.1, s.2 ++ [x.1])
def chS (L : List ((Int × List Int) × Bool)) : List (List (Int × List Int)) × List (Int × List Int) := L.foldl chSt ([], [])
theorem chS_take (L : List ((Int × List Int) × Bool)) (k : Nat) (hk : k < L.length) : chS (L.take (k + 1)) = chSt (chS (L.take k)) L[k] := by
  rw [List.take_succ_eq_append_getElem hk]
  simp only [chS, List.foldl_append, List.foldl_cons, List.foldl_nil]
/-- Records in memory, to be read. -/
structure Recs (w : World) (a : Option Addr) (R : List Rc) : Prop where
  tb : Tb w a 3 rcc R
  byt : ∀ r ∈ R, Bytes w r.m.ba r.m.bl r.m.bs ∧ N64 r.m.blk ∧ r.m.bl < 1000000
theorem Recs.below {w w' : World} {a : Option Addr} {R : List Rc} (h : Recs w a R) (hb : Below w.heap.size w w') : Recs w' a R :=
  ⟨h.tb.below hb, fun r hr => ⟨(h.byt r hr).1.below hb, (h.byt r hr).2⟩⟩
def zim : Im := ⟨0, none, 0, 0, []⟩
/-- A change, cut off the images of block g. -/
def Cut (g k : Nat) (Q : List Im) (c : Sx) : Prop := ∃ p, c.a = some ⟨g, p * 2, none⟩ ∧ c.l = c.M.length ∧ c.c = c.l ∧ p + c.l ≤ k ∧ c.M = (Q.drop p).take c.l ∧ 0 < c.l
theorem Cut.snoc {g k : Nat} {Q : List Im} {c : Sx} (h : Cut g k Q c) (hQ : Q.length = k) (m : Im) : Cut g (k + 1) (Q ++ [m]) c := by
  obtain ⟨p, h1, h2, h3, h4, h5, h6⟩ := h
  refine ⟨p, h1, h2, h3, by omega, ?_, h6⟩
  rw [List.drop_append_of_le_length (by omega), List.take_append_of_le_length (by simp; omega)]
  exact h5
/-- So far. -/
structure ChK (w wr : World) (R : List Rc) (g n k f : Nat) (v : Value) (Q : List Im) (C : List Sx) : Prop where
  row : wr.heap[g]? = some (.cells ((Q ++ List.replicate (n - k) zim).map imc).flatten.toArray 76 (0, 0))
  len : Q.length = k
  pls : Q.map pl = (R.take k).map (fun r => pl r.m)
  byt : ∀ m ∈ Q, OIm wr w.heap.size m
  bel : Below w.heap.size w wr
  lo : w.heap.size ≤ g
  out : wr.ownsRow w.heap.size 47 1 v C.length (C.map slc).flatten
  cut : ∀ c ∈ C, Cut g k Q c
  fk : f ≤ k
  c1 : C.map (fun c => c.M.map pl) = (chS ((R.map rpl).take k)).1
  c2 : (Q.drop f).map pl = (chS ((R.map rpl).take k)).2
theorem own_but {w w' : World} {B n G : Nat} {e : TypeId} {sz : Nat} {v : Value} {xs : List Value} {cs : Array Value} {t : TypeId} {fr : Nat × Nat} (h : w.ownsRow B e sz v n xs) (hG : w.heap[G]? = some (.cells cs t fr)) (ht : t ≠ e) (hb : But G w w') : w'.ownsRow B e sz v n xs :=
  own_same h (fun k hk => hb.block k (h.lt k hk).2 (fun e' => by
    obtain ⟨_, c1, h1⟩ := own_blk h k hk
    rw [e', hG] at h1
    simp only [Option.some.injEq, Obj.cells.injEq] at h1
    exact ht h1.2.1))
/-- One image more, in memory alone. -/
structure ChM (w wy : World) (R : List Rc) (g n k f : Nat) (v : Value) (Q : List Im) (C : List Sx) (m' : Im) : Prop where
  row : wy.heap[g]? = some (.cells (((Q ++ [m']) ++ List.replicate (n - (k + 1)) zim).map imc).flatten.toArray 76 (0, 0))
  len : Q.length = k
  pls : (Q ++ [m']).map pl = (R.take (k + 1)).map (fun r => pl r.m)
  byt : ∀ m ∈ Q ++ [m'], OIm wy w.heap.size m
  bel : Below w.heap.size w wy
  lo : w.heap.size ≤ g
  out : wy.ownsRow w.heap.size 47 1 v C.length (C.map slc).flatten
  cut : ∀ c ∈ C, Cut g (k + 1) (Q ++ [m']) c
  fk : f ≤ k
  c1 : C.map (fun c => c.M.map pl) = (chS ((R.map rpl).take k)).1
  c2 : (Q.drop f).map pl = (chS ((R.map rpl).take k)).2
theorem ChK.mid {w wr wx : World} {R : List Rc} {g n k f : Nat} {v : Value} {Q : List Im} {C : List Sx} (h : ChK w wr R g n k f v Q C) (hn : R.length = n) (hk : k < n) (hb : Below wr.heap.size wr wx) (m' : Im) (hp : pl m' = pl (R[k]'(by omega)).m) (ho : OIm wx w.heap.size m') : ChM w (wx.setCells g (k * 2) (imc m')) R g n k f v Q C m' := by
  have hg : g < wr.heap.size := (Array.getElem?_eq_some_iff.1 h.row).1
  have hrx := (hb.block g hg).trans h.row
  have hbut : But g wx (wx.setCells g (k * 2) (imc m')) := but_setCells _ _ _ _ _ (But.refl _ _)
  have hL : (Q ++ List.replicate (n - k) zim).length = n := by simp [h.len]; omega
  have hk2 : k < (Q ++ List.replicate (n - k) zim).length := by omega
  have hat : (Q ++ List.replicate (n - k) zim)[k] = zim := by
    rw [List.getElem_append_right (by simp [h.len])]
    simp
  refine ⟨?_, h.len, ?_, fun m hm => ?_, ?_, h.lo, own_but (own_to h.out hb) hrx (by decide) hbut, fun c hc => (h.cut c hc).snoc h.len m', h.fk, h.c1, h.c2⟩
  · rw [setCells_row g _ (imc m') (k * 2) _ _ hrx (by rw [flat_len imc 2 (fun _ => rfl), hL]; show k * 2 + 2 ≤ n * 2; omega)]
    have e := splice_flat imc 2 (fun _ => rfl) (Q ++ List.replicate (n - k) zim) k hk2 0 (imc m') m' (by rw [hat]; rfl) (by show 0 + 2 ≤ 2; omega)
    rw [Nat.add_zero] at e
    rw [e]
    congr 4
    obtain ⟨d, hd⟩ : ∃ d, n - k = d + 1 := ⟨n - k - 1, by omega⟩
    have hd' : n - (k + 1) = d := by omega
    rw [hd, hd', List.set_append_right _ _ (by simp [h.len])]
    simp [h.len, List.replicate_succ]
  · have hk3 : k < R.length := by omega
    rw [List.map_append, h.pls, List.take_succ_eq_append_getElem hk3]
    simp only [List.map_append, List.map_cons, List.map_nil, hp]
  · rcases List.mem_append.1 hm with hm | hm
    · exact ((h.byt m hm).to hb).but hrx (by decide) hbut
    · simp only [List.mem_cons, List.not_mem_nil, or_false] at hm
      subst hm
      exact ho.but hrx (by decide) hbut
  · exact below_but (below_to h.bel hb) hbut h.lo (below_to h.bel hb).size
theorem ChM.go {w wy : World} {R : List Rc} {g n k f : Nat} {v : Value} {Q : List Im} {C : List Sx} {m' : Im} (h : ChM w wy R g n k f v Q C m') (hk : k < R.length) (hp : pl m' = pl R[k].m) (hl : R[k].l = false) : ChK w wy R g n (k + 1) f v (Q ++ [m']) C := by
  have hk4 : k < (R.map rpl).length := by simp; omega
  have hch := chS_take (R.map rpl) k hk4
  have hx : (R.map rpl)[k] = (pl m', false) := by simp [rpl, hp, hl]
  rw [hx] at hch
  refine ⟨h.row, by simp [h.len], h.pls, h.byt, h.bel, h.lo, h.out, h.cut, by have := h.fk; omega, ?_, ?_⟩
  · rw [hch, h.c1]
    simp [chSt]
  · rw [hch, List.drop_append_of_le_length (by rw [h.len]; exact h.fk), List.map_append, h.c2]
    simp [chSt]
theorem ChM.ends {w wy w' : World} {R : List Rc} {g n k f : Nat} {v v' : Value} {Q : List Im} {C : List Sx} {m' : Im} (h : ChM w wy R g n k f v Q C m') (hk : k < R.length) (hp : pl m' = pl R[k].m) (hl : R[k].l = true) (ho : w'.ownsRow w.heap.size 47 1 v' (C.length + 1) ((C.map slc).flatten ++ [.slice (some ⟨g, f * 2, none⟩) (k + 1 - f) (k + 1 - f)])) (hg : wy.grownBy w' v.ownBlock) : ∃ C', ChK w w' R g n (k + 1) (k + 1) v' (Q ++ [m']) C' := by
  have hk4 : k < (R.map rpl).length := by simp; omega
  have hch := chS_take (R.map rpl) k hk4
  have hx : (R.map rpl)[k] = (pl m', true) := by simp [rpl, hp, hl]
  rw [hx] at hch
  have hgl : g < wy.heap.size := (Array.getElem?_eq_some_iff.1 h.row).1
  have hfk := h.fk
  have hMl : ((Q ++ [m']).drop f).length = k + 1 - f := by simp [h.len]
  refine ⟨C ++ [⟨some ⟨g, f * 2, none⟩, k + 1 - f, k + 1 - f, (Q ++ [m']).drop f⟩], ?_, by simp [h.len], h.pls, fun m hm => (h.byt m hm).grown h.out (by decide) hg, h.bel.grown hg h.bel.size (fun j hj => (own_blk h.out j hj).1), h.lo, ?_, fun c hc => ?_, Nat.le_refl _, ?_, ?_⟩
  · refine (hg.block g hgl (fun e => ?_)).trans h.row
    obtain ⟨_, c1, h1⟩ := own_blk h.out g e.symm
    rw [h.row] at h1
    simp only [Option.some.injEq, Obj.cells.injEq] at h1
    exact absurd h1.2.1 (by decide)
  · rw [List.length_append, List.map_append, List.flatten_append]
    simpa [slc] using ho
  · rcases List.mem_append.1 hc with hc | hc
    · exact h.cut c hc
    · simp only [List.mem_cons, List.not_mem_nil, or_false] at hc
      subst hc
      exact ⟨f, rfl, hMl.symm, rfl, by show f + (k + 1 - f) ≤ k + 1; omega, by show _ = _; rw [List.take_of_length_le (by rw [hMl]; exact Nat.le_refl _)], by show 0 < k + 1 - f; omega⟩
  · rw [hch, List.map_append, h.c1]
    simp only [chSt, if_true, List.map_cons, List.map_nil]
    rw [List.drop_append_of_le_length (by rw [h.len]; exact h.fk), List.map_append, h.c2]
    simp
  · rw [hch]
    simp [chSt, h.len]
/-- Changes in memory, at B and above. -/
structure Chs (w : World) (B : Nat) (v : Value) (C : List Sx) : Prop where
  row : w.ownsRow B 47 1 v C.length (C.map slc).flatten
  im : ∀ c ∈ C, c.M.length = c.l ∧ (∃ g p, B ≤ g ∧ g < w.heap.size ∧ c.a = some ⟨g, p, none⟩ ∧ ∀ i (h : i < c.M.length), w.rangeAt g (p + i * 2) (imc c.M[i])) ∧ ∀ m ∈ c.M, OIm w B m
theorem ChK.fin {w wr : World} {R : List Rc} {g n f : Nat} {v : Value} {Q : List Im} {C : List Sx} (h : ChK w wr R g n n f v Q C) : Chs wr w.heap.size v C := by
  refine ⟨h.out, fun c hc => ?_⟩
  obtain ⟨p, h1, h2, h3, h4, h5, h6⟩ := h.cut c hc
  have hrow := h.row
  rw [Nat.sub_self, List.replicate_zero, List.append_nil] at hrow
  refine ⟨h2.symm, ⟨g, p * 2, h.lo, (Array.getElem?_eq_some_iff.1 hrow).1, h1, fun i hi => ?_⟩, fun m hm => ?_⟩
  · have hpi : p + i < Q.length := by rw [h.len]; omega
    have e : c.M[i] = Q[p + i] := by
      have : c.M[i]? = Q[p + i]? := by
        rw [h5, List.getElem?_take, if_pos (by omega), List.getElem?_drop]
      rw [List.getElem?_eq_getElem hi, List.getElem?_eq_getElem hpi] at this
      exact Option.some.inj this
    rw [e]
    refine range_arr hrow _ (fun j u hu => ?_)
    have hj : j < 2 := (List.getElem?_eq_some_iff.1 hu).1
    have := flat_get imc 2 (fun _ => rfl) Q (p + i) hpi j hj
    rw [show p * 2 + i * 2 + j = (p + i) * 2 + j by omega]
    simpa [this] using hu
  · refine h.byt m ?_
    rw [h5] at hm
    exact List.mem_of_mem_drop (List.mem_of_mem_take hm)
end Go.Proofs.YtjdcccdkddnkgaaGreatDoor
