/-
 What the Go function Block of package cipher answers, for every key, counter and nonce. And what follows it.
-/
import Derived.Test.YthfobaeafapbnaaDoorQ01
import Derived.Test.YthfobaeafapbnaaDoorQ17
set_option linter.unusedVariables false
set_option maxRecDepth 100000
namespace Go.Proofs.YthfobaeafapbnaaDoor.Seal.Plain
end Go.Proofs.YthfobaeafapbnaaDoor.Seal.Plain
namespace Go.Proofs.YthfobaeafapbnaaDoor.Seal
open Go.RowKit Go.Proofs.YthfobaeafapbnaaDoor.Plain Go.Proofs.YthfobaeafapbnaaDoor.Seal.Plain
theorem wpList_new16 {ops : Array Oper} {rest : List Oper} {o : Oper} {a : Act} {v : World} {Q : Exit -> Act -> World -> Prop} (w : World) (X : List Int) (hX : X.length = 16) (old : Array Value) (hold : old.size = 16) (hgd : o.guard = none) (x y : Operand) (ho : o.op = .store 170 x y)
  (hx : a.eval x = .pointer (some ⟨w.heap.size, 0, none⟩)) (hy : a.eval y = .agg (u32s X)) (hv : v = w.alloc (.cells old 170))
  (h : ∀ z, z.heap[w.heap.size]? = some (.cells (u32s X) 170 (0, 0)) -> Below w.heap.size w z -> wpList Tryd.prog ops Q rest (a.put o.dst undef) z) : wpList Tryd.prog ops Q (o :: rest) a v := by
 subst hv
 have hs : (u32s X).size = 16 := by rw [size_u32s, hX]
 exact wpList_store_row hgd 170 x y ho w.heap.size (u32s X) hx hy 170 old (al_at rfl) (by rw [hs]; kernel_rfl) (by rw [hs]; exact hold) (all_u32s X)
  (h _ (setRow_heap _ _ _ _ _ _ (al_at rfl)) (below_setRow ((Below.refl _ _).alloc (Nat.le_refl _) _) (Nat.le_refl _) _))
theorem wpList_see16 {ops : Array Oper} {rest : List Oper} {o : Oper} {a : Act} {w : World} {Q : Exit -> Act -> World -> Prop} (g : Nat) (X : List Int) (hX : X.length = 16) (hg : w.heap[g]? = some (.cells (u32s X) 170 (0, 0))) (hgd : o.guard = none) (x : Operand) (ho : o.op = .load 170 x)
  (hx : a.eval x = .pointer (some ⟨g, 0, none⟩)) (h : wpList Tryd.prog ops Q rest (a.put o.dst (.agg (u32s X))) w) : wpList Tryd.prog ops Q (o :: rest) a w :=
 wpList_load_row hgd 170 x ho g hx 170 (u32s X) (0, 0) _ hg Tryd.underlying170 rfl (by rw [size_u32s, hX]; kernel_rfl) h
theorem wpList_seeKey {ops : Array Oper} {rest : List Oper} {o : Oper} {a : Act} {w : World} {Q : Exit -> Act -> World -> Prop} (g : Nat) (X : List Int) (hX : X.length = 32) (hg : w.heap[g]? = some (.cells (u8s X) 23 (0, 0))) (hgd : o.guard = none) (x : Operand) (ho : o.op = .load 23 x)
  (hx : a.eval x = .pointer (some ⟨g, 0, none⟩)) (h : wpList Tryd.prog ops Q rest (a.put o.dst (.agg (u8s X))) w) : wpList Tryd.prog ops Q (o :: rest) a w :=
 wpList_load_row hgd 23 x ho g hx 23 (u8s X) (0, 0) _ hg Tryd.underlying23 rfl (by rw [size_u8s, hX]; kernel_rfl) h
theorem wpList_seeNon {ops : Array Oper} {rest : List Oper} {o : Oper} {a : Act} {w : World} {Q : Exit -> Act -> World -> Prop} (g : Nat) (X : List Int) (hX : X.length = 12) (hg : w.heap[g]? = some (.cells (u8s X) 150 (0, 0))) (hgd : o.guard = none) (x : Operand) (ho : o.op = .load 150 x)
  (hx : a.eval x = .pointer (some ⟨g, 0, none⟩)) (h : wpList Tryd.prog ops Q rest (a.put o.dst (.agg (u8s X))) w) : wpList Tryd.prog ops Q (o :: rest) a w :=
 wpList_load_row hgd 150 x ho g hx 150 (u8s X) (0, 0) _ hg Tryd.underlying150 rfl (by rw [size_u8s, hX]; kernel_rfl) h
structure Kb (w wr : World) (S : Nat) (K N : List Int) : Prop where
 key : wr.heap[S]? = some (.cells (u8s K) 23 (0, 0))
 non : wr.heap[S + 1]? = some (.cells (u8s N) 150 (0, 0))
 res : wr.heap[S + 1 + 1]? = some (.cells (fil8 [] 64) 142 (0, 0))
 bel : Below S w wr
theorem Kb.on {w wr wx : World} {S : Nat} {K N : List Int} (h : Kb w wr S K N) (hb : Below wr.heap.size wr wx) : Kb w wx S K N := by
 have l1 := (Array.getElem?_eq_some_iff.1 h.key).1
 have l2 := (Array.getElem?_eq_some_iff.1 h.non).1
 have l3 := (Array.getElem?_eq_some_iff.1 h.res).1
 exact ⟨(hb.block _ l1).trans h.key, (hb.block _ l2).trans h.non, (hb.block _ l3).trans h.res, h.bel.trans (hb.mono (by omega))⟩
theorem three_alloc {w : World} {S : Nat} (hS : w.heap.size = S) (o1 o2 o3 : Obj) : (((w.alloc o1).alloc o2).alloc o3).heap[S]? = some o1 /\ (((w.alloc o1).alloc o2).alloc o3).heap[S + 1]? = some o2 /\ (((w.alloc o1).alloc o2).alloc o3).heap[S + 1 + 1]? = some o3 /\ Below S w (((w.alloc o1).alloc o2).alloc o3) := by
 refine ⟨al_old (al_old (al_at hS)), al_old (al_at (by simp [hS])), al_at (by simp [hS]), ?_⟩
 rw [<- hS]
 exact (((Below.refl _ _).alloc (Nat.le_refl _) _).alloc (by simp) _).alloc (by simp; omega) _
structure Lk (w wr : World) (S G1 G3 : Nat) (B X : List Int) : Prop where
 res : wr.heap[S + 1 + 1]? = some (.cells (fil8 [] 64) 142 (0, 0))
 wds : wr.heap[G1]? = some (.cells (u32s B) 170 (0, 0))
 out : wr.heap[G3]? = some (.cells (fil8 X 64).toList.toArray 142 (0, 0))
 bel : Below S w wr
theorem Lk.on {w wr wx : World} {S G1 G3 : Nat} {B X : List Int} (h : Lk w wr S G1 G3 B X) (hb : Below wr.heap.size wr wx) : Lk w wx S G1 G3 B X := by
 have l1 := (Array.getElem?_eq_some_iff.1 h.res).1
 have l2 := (Array.getElem?_eq_some_iff.1 h.wds).1
 have l3 := (Array.getElem?_eq_some_iff.1 h.out).1
 exact ⟨(hb.block _ l1).trans h.res, (hb.block _ l2).trans h.wds, (hb.block _ l3).trans h.out, h.bel.trans (hb.mono (by omega))⟩
theorem Lk.copy {w wr wx : World} {S G1 G3 : Nat} {B X : List Int} (h : Lk w wr S G1 G3 B X) (n1 : S + 1 + 1 < G3) (n2 : G1 < G3) (n3 : S <= G3) (Y : List Int) (o : Nat) (ho : X.length = o) (hY : X.length + Y.length <= 64) (hg : wx.heap[G3]? = some (.cells (splice (fil8 X 64).toList o (Y.map (Value.int .u8))).toArray 142 (0, 0))) (hb : Below G3 wr wx) : Lk w wx S G1 G3 B (X ++ Y) := by
 subst ho
 exact ⟨(hb.block _ n1).trans h.res, (hb.block _ n2).trans h.wds, by rw [hg, fil8_splice X Y 64 hY], h.bel.trans (hb.mono (by omega))⟩
theorem index42 (X : List Int) (hX : X.length = 16) (k : Nat) (hk : k < 16) (w : World) : (Instr.index 170 (.agg (u32s X)) (.int .i64 k)).run Tryd.prog w = .ok (.int .u32 (X.getD k 0)) w :=
 run_index_row Tryd.underlying170 Tryd.underlying71 rfl (by kernel_rfl) k hk (by simp [u32s, hX, hk]) w
theorem slice27 (G i : Nat) (h : i < 16) (x : World) : (Instr.sliceAt 142 (.pointer (some ⟨G, 0, none⟩)) (some (.int .i64 (4 * (i : Int)))) none none).run Tryd.prog x = .ok (.slice (some ⟨G, 4 * i, none⟩) (64 - 4 * i) (64 - 4 * i)) x := by
 have hlen : Tryd.prog.arrayLen 142 = 64 := by kernel_rfl
 have e : (4 * (i : Int)) = ((4 * i : Nat) : Int) := by simp
 rw [e, run_sliceAt_array_l (P := Tryd.prog) x 142 ⟨G, 0, none⟩ (by kernel_rfl) .i64 ((4 * i : Nat) : Int) (by omega) (by rw [hlen]; omega), hlen]
 have hs : (sizeOf (Tryd.prog.elem 142)).run Tryd.prog x = .ok 1 x := by kernel_rfl
 rw [hs, Result.andThen_ok, slicedAt, if_neg (by omega), Addr.add_mid]
 simp
 omega
theorem z64e : fil8 [] 64 = #[.int .u8 0, .int .u8 0, .int .u8 0, .int .u8 0, .int .u8 0, .int .u8 0, .int .u8 0, .int .u8 0, .int .u8 0, .int .u8 0, .int .u8 0, .int .u8 0, .int .u8 0, .int .u8 0, .int .u8 0, .int .u8 0, .int .u8 0, .int .u8 0, .int .u8 0, .int .u8 0, .int .u8 0, .int .u8 0, .int .u8 0, .int .u8 0, .int .u8 0, .int .u8 0, .int .u8 0, .int .u8 0, .int .u8 0, .int .u8 0, .int .u8 0, .int .u8 0, .int .u8 0, .int .u8 0, .int .u8 0, .int .u8 0, .int .u8 0, .int .u8 0, .int .u8 0, .int .u8 0, .int .u8 0, .int .u8 0, .int .u8 0, .int .u8 0, .int .u8 0, .int .u8 0, .int .u8 0, .int .u8 0, .int .u8 0, .int .u8 0, .int .u8 0, .int .u8 0, .int .u8 0, .int .u8 0, .int .u8 0, .int .u8 0, .int .u8 0, .int .u8 0, .int .u8 0, .int .u8 0, .int .u8 0, .int .u8 0, .int .u8 0, .int .u8 0] := rfl
set_option maxRecDepth 20000 in
set_option maxHeartbeats 2000000 in
theorem block_any (K N : List Int) (c : Int) (w : World) (hK : Byt K) (hKl : K.length = 32) (hN : Byt N) (hNl : N.length = 12) (hc : W32 c) (hT : Tab w) :
  Calls Tryd.prog 88 #[.agg (u8s K), .int .u32 c, .agg (u8s N)] w fun e w' => e = .returned (.agg (u8s (blk K c N))) /\ Below w.heap.size w w' := by
 obtain ⟨S, hS⟩ : ∃ S, w.heap.size = S := ⟨_, rfl⟩
 have HS : Hid (w.heap.size = S) := hS
 have A3 := three_alloc hS (.cells (u8s K) 23) (.cells (u8s N) 150) (.cells (fil8 [] 64) 142)
 have K0 : Box (Kb w (((w.alloc (.cells (u8s K) 23)).alloc (.cells (u8s N) 150)).alloc (.cells (fil8 [] 64) 142)) S K N) := ⟨A3.1, A3.2.1, A3.2.2.1, A3.2.2.2⟩
 have z64 := z64e
 rw [z64] at K0
 have HT : Box (∀ x, Below S w x -> Tab x) := ⟨fun x hx => hT.below (by rw [hS]; exact hx)⟩
 obtain ⟨B, EB⟩ := named (beg K c N)
 have hBl : B.length = 16 := by rw [<- EB.out]; exact length_beg K c N
 have hBw : Wrd B := by rw [<- EB.out]; exact wrd_beg K c N hK hc hN
 obtain ⟨M, EM⟩ := named (rn B 10)
 have hMl : M.length = 16 := by rw [<- EM.out, length_rn, hBl]
 have hMw : Wrd M := by rw [<- EM.out]; exact wrd_rn B 10 hBw
 have HE : Box (blk K c N = cb M B 16) := ⟨by rw [blk, EB.out, EM.out]⟩
 have HBg : Box (∀ x, Calls Tryd.prog 92 #[.agg (u8s K), .int .u32 c, .agg (u8s N)] x fun e w' => e = .returned (.agg (u32s B)) /\ Below x.heap.size x w') := ⟨fun x => by rw [<- EB.out]; exact begin_any K N c x hK hKl hN hNl hc⟩
 have HMx : Box (∀ x, Tab x -> Calls Tryd.prog 93 #[.agg (u32s B)] x fun e w' => e = .returned (.agg (u32s M)) /\ Below x.heap.size x w') := ⟨fun x hx => by rw [<- EM.out]; exact mixed_any B x hBl hBw hx⟩
 clear hS z64 A3 hT EB EM hK hN hc
 go_enter Tryd.func88, Tryd.ntmps88
 go_upto_region 1 with fail
 rw [HS.out]
 generalize ((w.alloc (.cells (u8s K) 23)).alloc _).alloc _ = x0 at K0 ⊢
 go_wp2_with (first
  | (refine wpList_see16 w2.heap.size M hMl (al_old H4.out.2.2.1) rfl (.tmp 8) rfl rfl ?_)
  | (refine wpList_new16 w2 M hMl ?old ?hold rfl (.tmp 8) (.tmp 17) rfl rfl rfl ?hv ?_; (case hv => rfl); (case hold => rfl); intro z2 hz hb; have H4 : Box (Kb w z2 S K N /\ z2.heap[w1.heap.size]? = some (.cells (u32s B) 170 (0, 0)) /\ z2.heap[w2.heap.size]? = some (.cells (u32s M) 170 (0, 0)) /\ w1.heap.size < w2.heap.size /\ w2.heap.size < z2.heap.size) := ⟨H3.out.1.on hb, (hb.block _ H3.out.2.2).trans H3.out.2.1, hz, H3.out.2.2, (Array.getElem?_eq_some_iff.1 hz).1⟩; clear hz hb)
  | (go_at_call 93; refine (HMx.out _ (HT.out _ H2.out.1.bel)).mono ?_; rintro e w2 ⟨rfl, hb2⟩; have H3 : Box (Kb w w2 S K N /\ w2.heap[w1.heap.size]? = some (.cells (u32s B) 170 (0, 0)) /\ w1.heap.size < w2.heap.size) := ⟨H2.out.1.on hb2, (hb2.block _ (Array.getElem?_eq_some_iff.1 H2.out.2).1).trans H2.out.2, Nat.lt_of_lt_of_le (Array.getElem?_eq_some_iff.1 H2.out.2).1 hb2.size⟩; clear hb2)
  | (refine wpList_see16 w1.heap.size B hBl H2.out.2 rfl (.tmp 7) rfl rfl ?_)
  | (refine wpList_new16 w1 B hBl ?old ?hold rfl (.tmp 7) (.tmp 15) rfl rfl rfl ?hv ?_; (case hv => rfl); (case hold => rfl); intro z1 hz hb; have H2 : Box (Kb w z1 S K N /\ z1.heap[w1.heap.size]? = some (.cells (u32s B) 170 (0, 0))) := ⟨H1.out.on hb, hz⟩; clear hz hb)
  | (go_at_call 92; refine (HBg.out _).mono ?_; rintro e w1 ⟨rfl, hb1⟩; have H1 : Box (Kb w w1 S K N) := ⟨K0.out.on hb1⟩; clear hb1)
  | (refine wpList_seeNon (S + 1) N hNl K0.out.non rfl (.tmp 5) rfl rfl ?_)
  | (refine wpList_seeKey S K hKl K0.out.key rfl (.tmp 3) rfl rfl ?_))
 have hlt4 := H4.out.2.2.2
 have L0 : Box (Lk w (z2.alloc (.cells (fil8 [] 64) 142)) S w1.heap.size z2.heap.size B (cb M B 0)) := ⟨al_old H4.out.1.res, al_old H4.out.2.1, al_at rfl, H4.out.1.bel.alloc (by have := (Array.getElem?_eq_some_iff.1 H4.out.1.key).1; omega) _⟩
 have HNs : S + 1 + 1 < z2.heap.size /\ w1.heap.size < z2.heap.size /\ S <= z2.heap.size := ⟨(Array.getElem?_eq_some_iff.1 H4.out.1.res).1, by omega, by have := (Array.getElem?_eq_some_iff.1 H4.out.1.key).1; omega⟩
 have z64 := z64e
 rw [z64] at L0
 generalize z2.alloc (.cells _ 142) = x3 at L0 ⊢
 generalize z2.heap.size = G3 at L0 HNs ⊢
 obtain ⟨G1, HG1⟩ : ∃ G, Box (w1.heap.size = G) := ⟨_, ⟨rfl⟩⟩
 rw [HG1.out] at L0 HNs ⊢
 obtain ⟨n1, n2, n3⟩ := HNs
 clear K0 HT HBg HMx H1 H2 H3 H4 hlt4 z64 HG1
 go_loopw [19] (fun i wr => ∃ k : Nat, k <= 16 /\ i = .int .i64 k /\ Box (Lk w wr S G1 G3 B (cb M B k))) (fun i _ => 16 - (intOf i).toNat)
 case atStart => exact ⟨0, by omega, rfl, L0⟩
 case round =>
  clear L0
  obtain ⟨i, hi, rfl, HL⟩ := hrel
  by_cases hlt : i < 16
  ·have hidx := index42 M hMl i hlt
   have hsl := slice27 G3 i hlt
   have hw4 : IntKind.i64.wrap (4 * (i : Int)) = 4 * (i : Int) := by rw [IntKind.wrap_i64]; omega
   have hm := hMw i
   have hb := hBw i
   have c1 : wr.drew.cell? ⟨G1, i, none⟩ = some (.int .u32 (B.getD i 0)) := u32_cell wr G1 i B _ _ HL.out.wds (by omega)
   have HLd : Box (Lk w wr.drew S G1 G3 B (cb M B i)) := ⟨HL.out.res, HL.out.wds, HL.out.out, HL.out.bel.drew⟩
   have HO : Box (W32 (ow M B i)) := ⟨W32.ow M B i⟩
   have HX : Box (IntKind.u64.wrap ((M.getD i 0 + B.getD i 0) % 4294967296) = ow M B i) := ⟨by rw [IntKind.wrap_u64]; have := W32.ow M B i; unfold ow at this ⊢; unfold W32 at this; omega⟩
   have HMIN : Box (((bytesOf (ow M B i) 4).map (Value.int .u8)).length = Nat.min 4 (64 - 4 * i)) := ⟨by rw [List.length_map, length_bytesOf]; exact (Nat.min_eq_left (by omega)).symm⟩
   have HFIT : Box (4 * i + ((bytesOf (ow M B i) 4).map (Value.int .u8)).length <= (fil8 (cb M B i) 64).toList.length) := ⟨by rw [List.length_map, length_bytesOf]; have : (fil8 (cb M B i) 64).toList.length = 64 := size_fil8 _ _ (by rw [length_cb]; omega); omega⟩
   generalize M.getD i 0 = m at hidx hm HX
   generalize B.getD i 0 = b at c1 hb HX
   obtain ⟨m0, m1⟩ := hm
   obtain ⟨b0, b1⟩ := hb
   clear HL
   go_wp2
   refine wp_region_any (by kernel_rfl) ?_
   change wpAny _ _ _ _ _ _ _ (World.drew _)
   generalize World.drew wr = y7 at HLd c1 ⊢
   refine wpAny_take (i := 0) (v := ?_) rfl (by kernel_rfl) (by kernel_rfl) (by kernel_rfl) (fun _ _ _ h => h) (Or.inl ⟨by rfl, ?_⟩) ?_
   rotate_left
   ·intro w'; go_simp <;> with_reducible rfl
   try simp only [Act.put, pC, pD, pE, pF, pG]
   refine wpAny_take (i := 1) (v := ?_) rfl (by kernel_rfl) (by kernel_rfl) (by kernel_rfl) (fun _ _ _ h => h) (Or.inl ⟨by rfl, ?_⟩) ?_
   rotate_left
   ·intro w'; go_simp <;> with_reducible rfl
   try simp only [Act.put, pC, pD, pE, pF, pG, pH]
   refine wpAny_take (i := 2) (v := ?_) rfl (by kernel_rfl) (by kernel_rfl) (by kernel_rfl) (fun _ _ _ h => h) (Or.inl ⟨by rfl, ?_⟩) ?_
   rotate_left
   ·intro w'; go_simp <;> with_reducible rfl
   try simp only [Act.put, pC, pD, pE, pF, pG, pH]
   refine wpAny_take (i := 3) (v := ?_) rfl (by kernel_rfl) (by kernel_rfl) (by kernel_rfl) (fun _ _ _ h => h) (Or.inl ⟨by rfl, ?_⟩) ?_
   rotate_left
   ·intro w'; go_simp <;> with_reducible rfl
   try simp only [Act.put, pC, pD, pE, pF, pG, pH]
   refine wpAny_take (i := 4) (v := ?_) rfl (by kernel_rfl) (by kernel_rfl) (by kernel_rfl) (fun _ _ _ h => h) (Or.inl ⟨by rfl, ?_⟩) ?_
   rotate_left
   ·intro w'; go_simp <;> with_reducible rfl
   try simp only [Act.put, pC, pD, pE, pF, pG, pH]
   refine wpAny_take (i := 5) (v := ?_) rfl (by kernel_rfl) (by kernel_rfl) (by kernel_rfl) (fun _ _ _ h => h) (Or.inl ⟨by rfl, ?_⟩) ?_
   rotate_left
   ·intro w'; go_simp <;> with_reducible rfl
   try simp only [Act.put, pC, pD, pE, pF, pG, pH]
   refine wpAny_ready (rs := [6]) (by kernel_rfl) (by simp) ?_
   refine AllReady.cons rfl (fun K hK => ?_) AllReady.nil
   rw [if_pos (by rfl)]
   go_simp
   refine hK _ _ ?_
   clear hK K
   try simp only [Act.put, pC, pD, pE, pF, pG, pH]
   refine wpAny_take (i := 7) (v := ?_) rfl (by kernel_rfl) (by kernel_rfl) (by kernel_rfl) (fun _ _ _ h => h) (Or.inl ⟨by rfl, ?_⟩) ?_
   rotate_left
   ·intro w'; go_simp <;> with_reducible rfl
   try simp only [Act.put, pC, pD, pE, pF, pG, pH]
   refine wpAny_take (i := 8) (v := ?_) rfl (by kernel_rfl) (by kernel_rfl) (by kernel_rfl) (fun _ _ _ h => h) (Or.inl ⟨by rfl, ?_⟩) ?_
   rotate_left
   ·intro w'; go_simp <;> with_reducible rfl
   try simp only [Act.put, pC, pD, pE, pF, pG, pH]
   refine wpAny_ready (rs := [9]) (by kernel_rfl) (by simp) ?_
   refine AllReady.cons rfl (fun K hK => ?_) AllReady.nil
   rw [if_pos (by rfl)]
   go_simp
   refine Calls.mono (put_k _ (ow M B i) 4 _ _ HO.out.1 (by have := HO.out.2; omega) (by omega) (by omega) rfl HX.out) ?_
   rintro e y8 ⟨g, rfl, hB8, hb8⟩
   have H8 : Box (Lk w y8 S G1 G3 B (cb M B i) /\ Bytes y8 (some ⟨g, 0, none⟩) 4 (bytesOf (ow M B i) 4)) := ⟨HLd.out.on hb8, hB8⟩
   clear hB8 hb8
   refine hK _ _ ?_
   clear hK K
   try simp only [Act.put, pC, pD, pE, pF, pG, pH]
   refine wpAny_ready (rs := [10]) (by kernel_rfl) (by simp) ?_
   refine AllReady.cons rfl (fun K hK => ?_) AllReady.nil
   refine step_copy_splice rfl (.tmp 25) (.tmp 32) 63 63 rfl 5 Tryd.underlying63 size5 _ _ _ _ _ _ rfl rfl G3 (4 * i) (fil8 (cb M B i) 64).toList 142 H8.out.1.out ((bytesOf (ow M B i) 4).map (Value.int .u8)) HMIN.out (fun hq => ⟨rfl, H8.out.2.src (by omega)⟩) HFIT.out (ints_oneCell _ _) G3 y8 (Below.refl _ _) (Nat.le_refl _) ?_
   intro y9 hg9 hb9
   have I9 : Box (Lk w y9 S G1 G3 B (cb M B (i + 1))) := ⟨H8.out.1.copy n1 n2 n3 (bytesOf (ow M B i) 4) (4 * i) (length_cb M B i) (by rw [length_cb, length_bytesOf]; omega) hg9.out hb9⟩
   clear hg9 hb9 H8
   refine hK _ _ ?_
   clear hK K
   try simp only [Act.put, pC, pD, pE, pF, pG, pH]
   refine wpAny_done (by kernel_rfl) ?_ _
   go_wp2
   go_roundw
   case rel => exact ⟨i + 1, by omega, by go_num, I9⟩
   case measure => simp [intOf]; omega
  ·obtain rfl : i = 16 := by omega
   rw [<- HE.out] at HL
   obtain ⟨X, HX⟩ := named (blk K c N)
   have hXl : X.length = 64 := by rw [<- HX.out]; exact length_blk K c N
   rw [HX.out] at HL
   have hsz : (u8s X).size = 64 := by rw [size_u8s, hXl]
   have hall := all_u8s X
   have HW := HL.out.out
   rw [fil8_full X 64 hXl] at HW
   have HF : Box (wr.heap[G3]? = some (.cells (u8s X) 142 (0, 0)) /\ wr.heap[S + 1 + 1]? = some (.cells (fil8 [] 64) 142 (0, 0)) /\ Below S w wr) := ⟨HW, HL.out.res, HL.out.bel⟩
   clear HW HL
   go_wp2_with (first | (refine wpList_load_row rfl 142 _ rfl G3 rfl 142 (u8s X) (0, 0) _ HF.out.1 Tryd.underlying142 rfl (by rw [hsz]; kernel_rfl) ?_) | (refine wpList_store_row rfl 142 _ _ rfl (S + 1 + 1) (u8s X) rfl rfl 142 (fil8 [] 64) HF.out.2.1 (by rw [hsz]; kernel_rfl) (by rw [hsz]; rfl) hall ?_))
   (try simp only [Exit.inBlock, Exit.then])
   refine bodyPost_ret (results_cell_row (p := 6) (ty := 142) rfl _ _ (S + 1 + 1) 142 (u8s X) (0, 0) _ rfl (setRow_heap _ _ _ _ _ _ HF.out.2.1) Tryd.underlying142 rfl (by rw [hsz]; kernel_rfl)) rfl ?_
   exact ⟨by rw [HX.out], by rw [HS.out]; exact below_setRow HF.out.2.2 (by omega) _⟩
end Go.Proofs.YthfobaeafapbnaaDoor.Seal
namespace Go.Proofs.YthfobaeafapbnaaDoor.Seal.Plain
end Go.Proofs.YthfobaeafapbnaaDoor.Seal.Plain
namespace Go.Proofs.YthfobaeafapbnaaDoor.Seal
open Go.RowKit Go.Proofs.YthfobaeafapbnaaDoor.Plain Go.Proofs.YthfobaeafapbnaaDoor.Seal.Plain
set_option maxHeartbeats 400000 in
theorem begun_any (a : Option Addr) (len cap : Nat) (w : World) (hl : len <= 1000000) :
  Calls Tryd.prog 87 #[.slice a len cap] w fun e w' => e = .returned (.int .u64 ((len + 63) / 64 : Nat)) /\ w = w' := by
 have e1 : IntKind.u64.wrap ((len : Int) / 64) = (len : Int) / 64 := by rw [IntKind.wrap_u64]; omega
 by_cases h : len % 64 = 0
 ·have h1 : (len : Int) % 64 = 0 := by omega
  have HE : Box ((((len + 63) / 64 : Nat) : Int) = (len : Int) / 64) := ⟨by omega⟩
  go_enter Tryd.func87, Tryd.ntmps87
  go_wp2
  go_ret
  exact ⟨by rw [HE.out]; first | rfl | rw [e1], rfl⟩
 ·have h1 : ¬ (len : Int) % 64 = 0 := by omega
  have HE : Box ((((len + 63) / 64 : Nat) : Int) = (len : Int) / 64 + 1) := ⟨by omega⟩
  go_enter Tryd.func87, Tryd.ntmps87
  go_wp2
  go_ret
  exact ⟨by rw [HE.out]; first | rfl | rw [e1], rfl⟩
structure Cy (w wr : World) (S T O G len : Nat) (K N X Y : List Int) : Prop where
 key : wr.heap[S]? = some (.cells (u8s K) 23 (0, 0))
 non : wr.heap[T]? = some (.cells (u8s N) 150 (0, 0))
 out : wr.heap[O]? = some (.cells (fil8 X len) 5 (0, 0))
 stm : wr.heap[G]? = some (.cells (u8s Y) 142 (0, 0))
 len64 : Y.length = 64
 bel : Below S w wr
theorem Cy.on {w wr wx : World} {S T O G len : Nat} {K N X Y : List Int} (h : Cy w wr S T O G len K N X Y) (hb : Below wr.heap.size wr wx) : Cy w wx S T O G len K N X Y := by
 have l1 := (Array.getElem?_eq_some_iff.1 h.key).1
 have l2 := (Array.getElem?_eq_some_iff.1 h.non).1
 have l3 := (Array.getElem?_eq_some_iff.1 h.out).1
 have l4 := (Array.getElem?_eq_some_iff.1 h.stm).1
 exact ⟨(hb.block _ l1).trans h.key, (hb.block _ l2).trans h.non, (hb.block _ l3).trans h.out, (hb.block _ l4).trans h.stm, h.len64, h.bel.trans (hb.mono (by omega))⟩
theorem Cy.put {w wr : World} {S T O G len : Nat} {K N X Y : List Int} (h : Cy w wr S T O G len K N X Y) (n1 : S ≠ O) (n2 : T ≠ O) (n3 : G ≠ O) (n4 : S <= O) (i : Nat) (hi : X.length = i) (hX : i < len) (v : Int) : Cy w (wr.setCell ⟨O, i, none⟩ (.int .u8 v)) S T O G len K N (X ++ [v]) Y := by
 subst hi
 exact ⟨by rw [heap_setCell_other wr ⟨O, X.length, none⟩ S _ n1]; exact h.key, by rw [heap_setCell_other wr ⟨O, X.length, none⟩ T _ n2]; exact h.non,
  by rw [heap_setCell_same wr O X.length _ 5 _ h.out, fil8_set X len v hX], by rw [heap_setCell_other wr ⟨O, X.length, none⟩ G _ n3]; exact h.stm, h.len64, below_set h.bel n4 _⟩
theorem Cy.lay {w wr : World} {S T O G len : Nat} {K N X Y : List Int} (h : Cy w wr S T O G len K N X Y) (n1 : S ≠ G) (n2 : T ≠ G) (n3 : O ≠ G) (n4 : S <= G) (Y' : List Int) (hY : Y'.length = 64) : Cy w (wr.setRow G (u8s Y')) S T O G len K N X Y' :=
 ⟨by rw [setRow_other _ _ _ _ n1]; exact h.key, by rw [setRow_other _ _ _ _ n2]; exact h.non, by rw [setRow_other _ _ _ _ n3]; exact h.out, setRow_heap _ _ _ _ _ _ h.stm, hY, below_setRow h.bel n4 _⟩
theorem fil8_nil (n : Nat) : fil8 [] n = (List.replicate n (Value.int .u8 0)).toArray := by simp [fil8, u8s]
set_option maxRecDepth 20000 in
set_option maxHeartbeats 2000000 in
theorem crypt_ok (a : Option Addr) (len cap : Nat) (K N B : List Int) (c : Int) (w : World) (hK : Byt K) (hKl : K.length = 32) (hN : Byt N) (hNl : N.length = 12) (hc : W32 c) (hT : Tab w) (hB : Bytes w a len B) (hl : len <= 1000000) (h : c + ((len + 63) / 64 : Nat) <= 4294967296) :
  Calls Tryd.prog 80 #[.agg (u8s K), .int .u32 c, .agg (u8s N), .slice a len cap] w fun e w' => ∃ a', e = .returned (.tuple #[.slice a' len len, .int .i64 0]) /\ Bytes w' a' len (cr K c N B len) /\ Below w.heap.size w w' := by
 obtain ⟨i0, hi, hz0, hz1, hz2⟩ := info_parts Tryd.info5
 obtain ⟨h0, h1⟩ := hc
 have HBe := fun x => begun_any a len cap x hl
 have e1 : IntKind.u64.wrap c = c := by rw [IntKind.wrap_u64]; omega
 have hb : (len + 63) / 64 <= 1000000 := by omega
 have HI : Box (∀ i, i < len -> c + ((i / 64 : Nat) : Int) < 4294967296) := ⟨fun i hi => by
  have : i / 64 < (len + 63) / 64 := by omega
  omega⟩
 generalize (len + 63) / 64 = n at h HBe hb
 have e2 : IntKind.u64.wrap (c + (n : Int)) = c + (n : Int) := by rw [IntKind.wrap_u64]; omega
 have h' : ¬ 4294967296 < c + (n : Int) := by omega
 clear h
 obtain ⟨S, hS⟩ : ∃ S, w.heap.size = S := ⟨_, rfl⟩
 have HS : Hid (w.heap.size = S) := hS
 have HC : Box _ := ⟨HBe⟩
 have H0 : Box (((w.alloc (.cells (u8s K) 23)).alloc (.cells (u8s N) 150)).heap[S]? = some (.cells (u8s K) 23 (0, 0)) /\ ((w.alloc (.cells (u8s K) 23)).alloc (.cells (u8s N) 150)).heap[S + 1]? = some (.cells (u8s N) 150 (0, 0)) /\ Below S w ((w.alloc (.cells (u8s K) 23)).alloc (.cells (u8s N) 150))) :=
  ⟨al_old (al_at hS), al_at (by simp [hS]), by rw [<- hS]; exact ((Below.refl _ _).alloc (Nat.le_refl _) _).alloc (by simp) _⟩
 have HB : Box (∀ x, Below S w x -> Bytes x a len B /\ Tab x) := ⟨fun x hx => by rw [<- hS] at hx; exact ⟨hB.below hx, hT.below hx⟩⟩
 have HBk : Box (∀ x, Below S w x -> ∀ c', W32 c' -> Calls Tryd.prog 88 #[.agg (u8s K), .int .u32 c', .agg (u8s N)] x fun e w' => e = .returned (.agg (u8s (blk K c' N))) /\ Below x.heap.size x w') := ⟨fun x hx c' hc' => block_any K N c' x hK hKl hN hNl hc' (HB.out x hx).2⟩
 clear hS HBe hT hB
 go_enter Tryd.func80, Tryd.ntmps80
 go_upto_region 1 with fail
 rw [HS.out]
 generalize (w.alloc (.cells (u8s K) 23)).alloc _ = x0 at H0 ⊢
 go_wp2_with (first | (at_make; refine wpList_make_full _ rfl (.tmp 21) (.tmp 21) 63 rfl _ 5 i0 (.int .u8 0) 1 Tryd.underlying63 hi hz0 hz1 _ _ _ _ len rfl rfl rfl rfl (by rw [hz2]; omega) (by unfold maxLen; omega) (Nat.le_refl _) ?_; intro w1 hown hgrow; have HR := made_row hown; have hb1 := (Below.refl x0.heap.size x0).grown hgrow (Nat.le_refl _) (by simp); have H1 : Box (w1.heap[x0.heap.size]? = some (.cells (fil8 [] len) 5 (0, 0)) /\ Below x0.heap.size x0 w1) := ⟨by rw [fil8_nil]; exact HR, hb1⟩; clear hown hgrow HR hb1) | (go_at_call 87; refine (HC.out _).mono ?_; rintro e w' ⟨rfl, rfl⟩))
 have K1 : Box (Cy w (w1.alloc (.cells (fil8 [] 64) 142)) S (S + 1) x0.heap.size w1.heap.size len K N (cr K c N B 0) (List.replicate 64 0)) := ⟨al_old ((H1.out.2.block _ (Array.getElem?_eq_some_iff.1 H0.out.1).1).trans H0.out.1), al_old ((H1.out.2.block _ (Array.getElem?_eq_some_iff.1 H0.out.2.1).1).trans H0.out.2.1), al_old H1.out.1, al_at rfl, by simp, (H0.out.2.2.trans (H1.out.2.mono (by have := (Array.getElem?_eq_some_iff.1 H0.out.1).1; omega))).alloc (by have := (Array.getElem?_eq_some_iff.1 H0.out.1).1; have := H1.out.2.size; omega) _⟩
 have HNs : S + 1 < x0.heap.size /\ x0.heap.size < w1.heap.size := ⟨(Array.getElem?_eq_some_iff.1 H0.out.2.1).1, (Array.getElem?_eq_some_iff.1 H1.out.1).1⟩
 have z64 := z64e
 rw [z64] at K1
 generalize w1.alloc (.cells _ 142) = x2 at K1 ⊢
 generalize w1.heap.size = G at K1 HNs ⊢
 generalize x0.heap.size = O at K1 HNs ⊢
 obtain ⟨n1, n2⟩ := HNs
 clear H0 H1 HC z64
 go_loopw [25] (fun i wr => ∃ (k : Nat) (Y : List Int), k <= len /\ i = .int .i64 k /\ Box (Cy w wr S (S + 1) O G len K N (cr K c N B k) Y /\ (k % 64 ≠ 0 -> Y = blk K ((c + (k / 64 : Nat)) % 4294967296) N))) (fun i _ => len - (intOf i).toNat)
 case atStart => exact ⟨0, _, by omega, rfl, ⟨K1.out, by omega⟩⟩
 case round =>
  clear K1
  obtain ⟨i, Y, hik, rfl, HY⟩ := hrel
  by_cases hlt : i < len
  ·have HB1 := (HB.out wr HY.out.1.bel).1
   obtain ⟨bb, off, rfl, hbl, hc0⟩ := HB1.2.2 (by omega)
   have hz0' := HB1.2.1
   have HBB : Box (∀ x, Below S w x -> ∀ i, i < len -> x.cell? ⟨bb, off + i, none⟩ = some (.int .u8 (B.getD i 0))) := ⟨fun x hx i hi => by
    obtain ⟨b', off', he, _, hc'⟩ := (HB.out x hx).1.2.2 (by omega)
    simp only [Option.some.injEq, Addr.mk.injEq, and_true] at he
    obtain ⟨rfl, rfl⟩ := he
    exact hc' i hi⟩
   clear HB1 hc0 hbl
   have hz := hz0' i
   clear hz0'
   have hq := HI.out i hlt
   have HQ : Box ((i : Int) / 64 = ((i / 64 : Nat) : Int)) := ⟨by omega⟩
   have HR : Box ((i : Int) % 64 = ((i % 64 : Nat) : Int)) := ⟨by omega⟩
   have HST : Box (Plain.stm K c N i = (blk K ((c + (i / 64 : Nat)) % 4294967296) N).getD (i % 64) 0) := ⟨rfl⟩
   have HNX : Box (∀ Y : List Int, Y = blk K ((c + (i / 64 : Nat)) % 4294967296) N -> ((i + 1) % 64 ≠ 0 -> Y = blk K ((c + ((i + 1) / 64 : Nat)) % 4294967296) N)) := ⟨fun Y h h' => by rw [show (i + 1) / 64 = i / 64 by omega]; exact h⟩
   have c0 := HBB.out wr HY.out.1.bel i hlt
   obtain ⟨z, Hz⟩ : ∃ z, Box (B.getD i 0 = z) := ⟨_, ⟨rfl⟩⟩
   rw [Hz.out] at c0 hz
   clear HBB
   by_cases h64 : i % 64 = 0
   ·have hr0 : (i : Int) % 64 = 0 := by omega
    rw [h64] at HST
    generalize i / 64 = q at HQ hq HST HNX
    have hq' := HQ.out
    have e3 : IntKind.u32.wrap ((q : Nat) : Int) = q := by rw [IntKind.wrap_u32]; omega
    obtain ⟨Z, HZ⟩ := named (blk K ((c + (q : Int)) % 4294967296) N)
    have hZl : Z.length = 64 := by rw [<- HZ.out]; exact length_blk _ _ _
    have hZs : (u8s Z).size = 64 := by rw [size_u8s, hZl]
    have HZb : Box (0 <= Z.getD 0 0 /\ Z.getD 0 0 <= 255) := ⟨by rw [<- HZ.out]; exact byt_blk _ _ _ 0⟩
    have HBc : Box (∀ x, Below S w x -> Calls Tryd.prog 88 #[.agg (u8s K), .int .u32 (c + (q : Int)), .agg (u8s N)] x fun e w' => e = .returned (.agg (u8s Z)) /\ Below x.heap.size x w') := ⟨fun x hx => by
     have e4 : (c + (q : Int)) % 4294967296 = c + (q : Int) := Int.emod_eq_of_lt (by omega) (by omega)
     rw [<- HZ.out, e4]; exact HBk.out x hx _ ⟨by omega, by omega⟩⟩
    rw [HZ.out] at HST
    have HNZ : Box ((i + 1) % 64 ≠ 0 -> Z = blk K ((c + ((i + 1) / 64 : Nat)) % 4294967296) N) := ⟨HNX.out Z HZ.out.symm⟩
    clear HNX HZ h64 HR HQ
    go_upto_region 10 with (first
     | (refine wpList_store_row rfl 142 (.tmp 11) (.tmp 40) rfl G (u8s Z) rfl rfl 142 (u8s Y) H5.out.stm (by rw [hZs]; kernel_rfl) (by rw [hZs, size_u8s]; exact H5.out.len64) (all_u8s Z) ?_)
     | (go_at_call 88; refine (HBc.out _ HY.out.1.bel).mono ?_; rintro e w5 ⟨rfl, hb5⟩; have H5 : Box (Cy w w5 S (S + 1) O G len K N (cr K c N B i) Y) := ⟨HY.out.1.on hb5⟩; clear hb5)
     | (refine wpList_seeNon (S + 1) N hNl HY.out.1.non rfl (.tmp 6) rfl rfl ?_)
     | (refine wpList_seeKey S K hKl HY.out.1.key rfl (.tmp 4) rfl rfl ?_))
    have H6 : Box (Cy w (w5.setRow G (u8s Z)) S (S + 1) O G len K N (cr K c N B i) Z) := ⟨H5.out.lay (by omega) (by omega) (by omega) (by omega) Z hZl⟩
    generalize w5.setRow G (u8s Z) = w6 at H6 ⊢
    have cy := row_cell w6 G 0 Z _ _ H6.out.stm (by rw [H6.out.len64]; omega)
    obtain ⟨v, cv⟩ : ∃ v, w6.cell? ⟨O, i, none⟩ = some v := by
     obtain ⟨v, hv⟩ := fil8_some (cr K c N B i) len i hlt (by rw [length_cr]; omega)
     exact ⟨v, by rw [cell_of_row _ _ _ _ _ _ H6.out.out]; exact hv⟩
    have fv : w6.frozen? ⟨O, i, none⟩ = false := frozen_of_row w6 O i _ 5 H6.out.out
    have HM := H6.out.put (by omega) (by omega) (by omega) (by omega) i (length_cr K c N B i) hlt (xr z (Z.getD 0 0))
    have HM2 : Box (Cy w (w6.setCell ⟨O, i, none⟩ (.int .u8 (bits .xor .u8 z (Z.getD 0 0)))) S (S + 1) O G len K N (cr K c N B (i + 1)) Z) := ⟨by rw [cr, HST.out, Hz.out]; exact HM⟩
    clear HM
    generalize Z.getD 0 0 = y at cy HM2 HZb
    obtain ⟨y0, y1⟩ := HZb.out
    clear H5 H6 HBk HBc HB HY c0 Hz
    go_wp2
    go_roundw
    case rel => exact ⟨i + 1, Z, by omega, by go_num, ⟨HM2.out, HNZ.out⟩⟩
    case measure => simp [intOf]; omega
   ·have hr0 : ¬ (i : Int) % 64 = 0 := by omega
    have EY := HY.out.2 h64
    rw [<- EY] at HST
    have HNY : Box ((i + 1) % 64 ≠ 0 -> Y = blk K ((c + ((i + 1) / 64 : Nat)) % 4294967296) N) := ⟨HNX.out Y EY⟩
    have H6 : Box (Cy w wr S (S + 1) O G len K N (cr K c N B i) Y) := ⟨HY.out.1⟩
    have hyb : 0 <= Y.getD (i % 64) 0 /\ Y.getD (i % 64) 0 <= 255 := by rw [EY]; exact byt_blk _ _ _ _
    have hrl : i % 64 < 64 := by omega
    clear EY HNX HQ
    generalize i % 64 = r at HR HST hyb hrl h64
    have hr := HR.out
    have cy := row_cell wr G r Y _ _ H6.out.stm (by rw [H6.out.len64]; omega)
    obtain ⟨v, cv⟩ : ∃ v, wr.cell? ⟨O, i, none⟩ = some v := by
     obtain ⟨v, hv⟩ := fil8_some (cr K c N B i) len i hlt (by rw [length_cr]; omega)
     exact ⟨v, by rw [cell_of_row _ _ _ _ _ _ H6.out.out]; exact hv⟩
    have fv : wr.frozen? ⟨O, i, none⟩ = false := frozen_of_row wr O i _ 5 H6.out.out
    have HM := H6.out.put (by omega) (by omega) (by omega) (by omega) i (length_cr K c N B i) hlt (xr z (Y.getD r 0))
    have HM2 : Box (Cy w (wr.setCell ⟨O, i, none⟩ (.int .u8 (bits .xor .u8 z (Y.getD r 0)))) S (S + 1) O G len K N (cr K c N B (i + 1)) Y) := ⟨by rw [cr, HST.out, Hz.out]; exact HM⟩
    clear HM
    generalize Y.getD r 0 = y at cy HM2 hyb
    obtain ⟨y0, y1⟩ := hyb
    clear H6 HBk HB HY HR h64 Hz
    go_wp2
    go_roundw
    case rel => exact ⟨i + 1, Y, by omega, by go_num, ⟨HM2.out, HNY.out⟩⟩
    case measure => simp [intOf]; omega
  ·obtain rfl : i = len := by omega
   have hO := HY.out.1.out
   rw [fil8_full _ i (length_cr K c N B i)] at hO
   have hBy := bytes_of_row (byt_cr K c N B i) hO
   rw [length_cr] at hBy
   have HF : Box (Bytes wr (some ⟨O, 0, none⟩) i (cr K c N B i) /\ Below S w wr) := ⟨hBy, HY.out.1.bel⟩
   clear hO hBy HY HB HBk
   go_wp2
   go_ret2
   exact ⟨_, rfl, HF.out.1, by rw [HS.out]; exact HF.out.2⟩
end Go.Proofs.YthfobaeafapbnaaDoor.Seal
