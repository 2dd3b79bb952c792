/-
  What the Go function Nonce of package cipher answers, for every place and version. And what follows it.
-/
import Derived.Deep.RegionLaw
import Derived.Test.YthbbijaikcmaeaaGreatDoorX12
namespace Go.Proofs.YthbbijaikcmaeaaGreatDoor.Seal.Plain
set_option maxRecDepth 100000
end Go.Proofs.YthbbijaikcmaeaaGreatDoor.Seal.Plain
namespace Go.Proofs.YthbbijaikcmaeaaGreatDoor.Seal
set_option maxRecDepth 100000
set_option linter.unusedVariables false
set_option maxRecDepth 100000
open Go.RowKit Go.Proofs.YthbbijaikcmaeaaGreatDoor.Plain Go.Proofs.YthbbijaikcmaeaaGreatDoor.Seal.Plain
theorem size5 : (Tryz.prog.info? 5).map (·.size) = some 1 := by kernel_rfl
theorem put_k (x' x : Int) (n : Nat) (ni : Int) (w : World) (hx0 : 0 ≤ x) (hx1 : x ≤ 18446744073709551615) (h1 : 1 ≤ n) (h2 : n ≤ 8) (h : ni = n) (hx : x' = x) :
    Calls Tryz.prog 80 #[.int .u64 x', .int .i64 ni] w fun e w' => ∃ g, e = .returned (.slice (some ⟨g, 0, none⟩) n n) ∧ Bytes w' (some ⟨g, 0, none⟩) n (bytesOf x n) ∧ Below w.heap.size w w' := by
  subst h
  subst hx
  exact (put_ok _ n w hx0 hx1 h1 h2).mono fun e w' ⟨g, he, ho⟩ => ⟨g, he, ho.bytes (bytesOf_bd _ n), ho.2.2⟩
structure No (w wr : World) (S : Nat) (X : List Int) : Prop where
  res : wr.heap[S]? = some (.cells (fil8 [] 12) 171 (0, 0))
  out : wr.heap[S + 1]? = some (.cells (fil8 X 12).toList.toArray 171 (0, 0))
  bel : Below S w wr
theorem No.on {w wr wx : World} {S : Nat} {X : List Int} (h : No w wr S X) (hb : Below wr.heap.size wr wx) : No w wx S X := by
  have l1 := (Array.getElem?_eq_some_iff.1 h.res).1
  have l2 := (Array.getElem?_eq_some_iff.1 h.out).1
  exact ⟨(hb.block _ l1).trans h.res, (hb.block _ l2).trans h.out, h.bel.trans (hb.mono (by omega))⟩
theorem No.copy {w wr wx : World} {S : Nat} {X : List Int} (h : No w wr S X) (X' Y : List Int) (o : Nat) (ho : X.length = o) (hY : X.length + Y.length ≤ 12) (hg : wx.heap[S + 1]? = some (.cells (splice (fil8 X 12).toList o (Y.map (Value.int .u8))).toArray 171 (0, 0))) (hb : Below (S + 1) wr wx) : No w wx S (X ++ Y) := by
  subst ho
  exact ⟨(hb.block _ (by omega)).trans h.res, by rw [hg, fil8_splice X Y 12 hY], h.bel.trans (hb.mono (by omega))⟩
theorem no_len (X : List Int) : (fil8 X 12).toList.length = max X.length 12 := by simp [fil8, u8s]; omega
set_option maxRecDepth 20000 in
set_option maxHeartbeats 1000000 in
theorem nonce_any (p v : Int) (w : World) (hp : W32 p) (hv : 0 ≤ v ∧ v ≤ 18446744073709551615) :
    Calls Tryz.prog 103 #[.int .u32 p, .int .u64 v] w fun e w' => e = .returned (.agg (u8s (non p v))) ∧ Below w.heap.size w w' := by
  obtain ⟨hp0, hp1⟩ := hp
  obtain ⟨S, hS⟩ : ∃ S, w.heap.size = S := ⟨_, rfl⟩
  have HS : Hid (w.heap.size = S) := hS
  have I0 : Box (No w ((w.alloc (.cells (fil8 [] 12) 171)).alloc (.cells (fil8 [] 12) 171)) S []) := ⟨al_old (al_at hS), al_at (by simp [hS]), by rw [← hS]; exact ((Below.refl _ _).alloc (Nat.le_refl _) _).alloc (by simp) _⟩
  have z12 : fil8 [] 12 = #[.int .u8 0, .int .u8 0, .int .u8 0, .int .u8 0, .int .u8 0, .int .u8 0, .int .u8 0, .int .u8 0, .int .u8 0, .int .u8 0, .int .u8 0, .int .u8 0] := rfl
  rw [z12] at I0
  clear hS z12
  go_enter Tryz.func103, Tryz.ntmps103
  go_wp2
  rw [HS.out]
  generalize (w.alloc (.cells _ 171)).alloc _ = x0 at I0 ⊢
  have I0d : Box (No w x0.drew S []) := ⟨I0.out.res, I0.out.out, I0.out.bel.drew⟩
  clear I0
  refine wp_region_any (by kernel_rfl) ?_
  change wpAny _ _ _ _ _ _ _ (World.drew _)
  generalize World.drew x0 = y2 at I0d ⊢
  refine wpAny_take (i := 0) (v := ?_) rfl (by kernel_rfl) (by kernel_rfl) (by kernel_rfl) (fun _ _ _ h => h) (Or.inl ⟨by rfl, ?_⟩) ?_
  rotate_left
  · intro w'; go_simp <;> with_reducible rfl
  try simp only [Act.put, List.setIfInBounds_toArray, List.set_cons_zero, List.set_cons_succ, List.getElem_toArray, List.getElem_cons_zero]
  refine wpAny_take (i := 1) (v := ?_) rfl (by kernel_rfl) (by kernel_rfl) (by kernel_rfl) (fun _ _ _ h => h) (Or.inl ⟨by rfl, ?_⟩) ?_
  rotate_left
  · intro w'; go_simp <;> with_reducible rfl
  try simp only [Act.put, List.setIfInBounds_toArray, List.set_cons_zero, List.set_cons_succ, List.getElem_toArray, List.getElem_cons_zero, List.getElem_cons_succ]
  refine wpAny_take (i := 2) (v := ?_) rfl (by kernel_rfl) (by kernel_rfl) (by kernel_rfl) (fun _ _ _ h => h) (Or.inl ⟨by rfl, ?_⟩) ?_
  rotate_left
  · intro w'; go_simp <;> with_reducible rfl
  try simp only [Act.put, List.setIfInBounds_toArray, List.set_cons_zero, List.set_cons_succ, List.getElem_toArray, List.getElem_cons_zero, List.getElem_cons_succ]
  refine wpAny_ready (rs := [3]) (by kernel_rfl) (by simp) ?_
  refine AllReady.cons rfl (fun K hK => ?_) AllReady.nil
  rw [if_pos (by rfl)]
  go_simp
  refine Calls.mono (put_k _ p 4 _ _ (by omega) (by omega) (by omega) (by omega) rfl (by first | rfl | (rw [IntKind.wrap_u64]; omega))) ?_
  rintro e x1 ⟨g2, rfl, hB2, hb2⟩
  have H2 : Box (No w x1 S [] ∧ Bytes x1 (some ⟨g2, 0, none⟩) 4 (bytesOf p 4)) := ⟨(I0d.out).on hb2, hB2⟩
  clear hB2 hb2
  refine hK _ _ ?_
  clear hK K
  try simp only [Act.put, List.setIfInBounds_toArray, List.set_cons_zero, List.set_cons_succ, List.getElem_toArray, List.getElem_cons_zero, List.getElem_cons_succ]
  refine wpAny_ready (rs := [4]) (by kernel_rfl) (by simp) ?_
  refine AllReady.cons rfl (fun K hK => ?_) AllReady.nil
  refine step_copy_splice rfl (.tmp 6) (.tmp 9) 38 38 rfl 5 Tryz.underlying38 size5 _ _ _ _ _ _ rfl rfl (S + 1) 0 (fil8 [] 12).toList 171 H2.out.1.out ((bytesOf p 4).map (Value.int .u8)) (by rw [List.length_map, length_bytesOf]; rfl) (fun hq => ⟨rfl, H2.out.2.src (by omega)⟩) (by rw [List.length_map, length_bytesOf, no_len]; omega) (ints_oneCell _ _) (S + 1) x1 (Below.refl _ _) (Nat.le_refl _) ?_
  intro x2 hg2 hb2
  have I2 : Box (No w x2 S (bytesOf p 4)) := ⟨H2.out.1.copy ([]) (bytesOf p 4) 0 rfl (by simp [length_bytesOf]) hg2.out hb2⟩
  clear hg2 hb2 H2
  refine hK _ _ ?_
  clear hK K
  try simp only [Act.put, List.setIfInBounds_toArray, List.set_cons_zero, List.set_cons_succ, List.getElem_toArray, List.getElem_cons_zero, List.getElem_cons_succ]
  refine wpAny_done (by kernel_rfl) ?_ _
  clear I0d
  go_wp2
  have I2d : Box (No w x2.drew S (bytesOf p 4)) := ⟨I2.out.res, I2.out.out, I2.out.bel.drew⟩
  clear I2
  refine wp_region_any (by kernel_rfl) ?_
  change wpAny _ _ _ _ _ _ _ (World.drew _)
  generalize World.drew x2 = y3 at I2d ⊢
  refine wpAny_take (i := 0) (v := ?_) rfl (by kernel_rfl) (by kernel_rfl) (by kernel_rfl) (fun _ _ _ h => h) (Or.inl ⟨by rfl, ?_⟩) ?_
  rotate_left
  · intro w'; go_simp <;> with_reducible rfl
  try simp only [Act.put, List.setIfInBounds_toArray, List.set_cons_zero, List.set_cons_succ, List.getElem_toArray, List.getElem_cons_zero]
  refine wpAny_take (i := 1) (v := ?_) rfl (by kernel_rfl) (by kernel_rfl) (by kernel_rfl) (fun _ _ _ h => h) (Or.inl ⟨by rfl, ?_⟩) ?_
  rotate_left
  · intro w'; go_simp <;> with_reducible rfl
  try simp only [Act.put, List.setIfInBounds_toArray, List.set_cons_zero, List.set_cons_succ, List.getElem_toArray, List.getElem_cons_zero, List.getElem_cons_succ]
  refine wpAny_ready (rs := [2]) (by kernel_rfl) (by simp) ?_
  refine AllReady.cons rfl (fun K hK => ?_) AllReady.nil
  rw [if_pos (by rfl)]
  go_simp
  refine Calls.mono (put_k _ v 8 _ _ (by omega) (by omega) (by omega) (by omega) rfl (by first | rfl | (rw [IntKind.wrap_u64]; omega))) ?_
  rintro e x3 ⟨g3, rfl, hB3, hb3⟩
  have H3 : Box (No w x3 S (bytesOf p 4) ∧ Bytes x3 (some ⟨g3, 0, none⟩) 8 (bytesOf v 8)) := ⟨(I2d.out).on hb3, hB3⟩
  clear hB3 hb3
  refine hK _ _ ?_
  clear hK K
  try simp only [Act.put, List.setIfInBounds_toArray, List.set_cons_zero, List.set_cons_succ, List.getElem_toArray, List.getElem_cons_zero, List.getElem_cons_succ]
  refine wpAny_ready (rs := [3]) (by kernel_rfl) (by simp) ?_
  refine AllReady.cons rfl (fun K hK => ?_) AllReady.nil
  refine step_copy_splice rfl (.tmp 11) (.tmp 13) 38 38 rfl 5 Tryz.underlying38 size5 _ _ _ _ _ _ rfl rfl (S + 1) 4 (fil8 (bytesOf p 4) 12).toList 171 H3.out.1.out ((bytesOf v 8).map (Value.int .u8)) (by rw [List.length_map, length_bytesOf]; rfl) (fun hq => ⟨rfl, H3.out.2.src (by omega)⟩) (by rw [List.length_map, length_bytesOf, no_len]; omega) (ints_oneCell _ _) (S + 1) x3 (Below.refl _ _) (Nat.le_refl _) ?_
  intro x4 hg3 hb3
  have I3 : Box (No w x4 S (non p v)) := ⟨H3.out.1.copy ((bytesOf p 4)) (bytesOf v 8) 4 (length_bytesOf p 4) (by simp [length_bytesOf]) hg3.out hb3⟩
  clear hg3 hb3 H3
  refine hK _ _ ?_
  clear hK K
  try simp only [Act.put, List.setIfInBounds_toArray, List.set_cons_zero, List.set_cons_succ, List.getElem_toArray, List.getElem_cons_zero, List.getElem_cons_succ]
  refine wpAny_done (by kernel_rfl) ?_ _
  clear I2d
  obtain ⟨X, HX⟩ := named (non p v)
  have hXl : X.length = 12 := by rw [← HX.out]; exact length_non p v
  rw [HX.out] at I3
  have hsz : (u8s X).size = 12 := by rw [size_u8s, hXl]
  have hall := all_u8s X
  have HW := I3.out.out
  rw [fil8_full X 12 hXl] at HW
  have HF : Box (x4.heap[S + 1]? = some (.cells (u8s X) 171 (0, 0)) ∧ x4.heap[S]? = some (.cells (fil8 [] 12) 171 (0, 0)) ∧ Below S w x4) := ⟨HW, I3.out.res, I3.out.bel⟩
  clear HW I3
  go_wp2_with (first | (refine wpList_load_row rfl 171 _ rfl (S + 1) rfl 171 (u8s X) (0, 0) _ HF.out.1 Tryz.underlying171 rfl (by rw [hsz]; kernel_rfl) ?_) | (refine wpList_store_row rfl 171 _ _ rfl S (u8s X) rfl rfl 171 (fil8 [] 12) HF.out.2.1 (by rw [hsz]; kernel_rfl) (by rw [hsz]; rfl) hall ?_))
  (try simp only [Exit.inBlock, Exit.then])
  refine bodyPost_ret (results_cell_row (p := 4) (ty := 171) rfl _ _ S 171 (u8s X) (0, 0) _ rfl (setRow_heap _ _ _ _ _ _ HF.out.2.1) Tryz.underlying171 rfl (by rw [hsz]; kernel_rfl)) rfl ?_
  exact ⟨by rw [HX.out], by rw [HS.out]; exact below_setRow HF.out.2.2 (Nat.le_refl _) _⟩
end Go.Proofs.YthbbijaikcmaeaaGreatDoor.Seal
namespace Go.Proofs.YthbbijaikcmaeaaGreatDoor.Seal.Plain
set_option maxRecDepth 100000
end Go.Proofs.YthbbijaikcmaeaaGreatDoor.Seal.Plain
namespace Go.Proofs.YthbbijaikcmaeaaGreatDoor.Seal
set_option maxRecDepth 100000
set_option linter.unusedVariables false
open Go.RowKit Go.Proofs.YthbbijaikcmaeaaGreatDoor.Plain Go.Proofs.YthbbijaikcmaeaaGreatDoor.Seal.Plain
theorem wpList_new16 {ops : Array Oper} {rest : List Oper} {o : Oper} {a : Act} {v : World} {Q : Exit → Act → World → Prop} (w : World) (X : List Int) (hX : X.length = 16) (old : Array Value) (hold : old.size = 16) (hgd : o.guard = none) (x y : Operand) (ho : o.op = .store 200 x y)
    (hx : a.eval x = .pointer (some ⟨w.heap.size, 0, none⟩)) (hy : a.eval y = .agg (u32s X)) (hv : v = w.alloc (.cells old 200))
    (h : ∀ z, z.heap[w.heap.size]? = some (.cells (u32s X) 200 (0, 0)) → Below w.heap.size w z → wpList Tryz.prog ops Q rest (a.put o.dst undef) z) : wpList Tryz.prog ops Q (o :: rest) a v := by
  subst hv
  have hs : (u32s X).size = 16 := by rw [size_u32s, hX]
  exact wpList_store_row hgd 200 x y ho w.heap.size (u32s X) hx hy 200 old (al_at rfl) (by rw [hs]; kernel_rfl) (by rw [hs]; exact hold) (all_u32s X)
    (h _ (setRow_heap _ _ _ _ _ _ (al_at rfl)) (below_setRow ((Below.refl _ _).alloc (Nat.le_refl _) _) (Nat.le_refl _) _))
theorem wpList_see16 {ops : Array Oper} {rest : List Oper} {o : Oper} {a : Act} {w : World} {Q : Exit → Act → World → Prop} (g : Nat) (X : List Int) (hX : X.length = 16) (hg : w.heap[g]? = some (.cells (u32s X) 200 (0, 0))) (hgd : o.guard = none) (x : Operand) (ho : o.op = .load 200 x)
    (hx : a.eval x = .pointer (some ⟨g, 0, none⟩)) (h : wpList Tryz.prog ops Q rest (a.put o.dst (.agg (u32s X))) w) : wpList Tryz.prog ops Q (o :: rest) a w :=
  wpList_load_row hgd 200 x ho g hx 200 (u32s X) (0, 0) _ hg Tryz.underlying200 rfl (by rw [size_u32s, hX]; kernel_rfl) h
theorem wpList_seeKey {ops : Array Oper} {rest : List Oper} {o : Oper} {a : Act} {w : World} {Q : Exit → Act → World → Prop} (g : Nat) (X : List Int) (hX : X.length = 32) (hg : w.heap[g]? = some (.cells (u8s X) 23 (0, 0))) (hgd : o.guard = none) (x : Operand) (ho : o.op = .load 23 x)
    (hx : a.eval x = .pointer (some ⟨g, 0, none⟩)) (h : wpList Tryz.prog ops Q rest (a.put o.dst (.agg (u8s X))) w) : wpList Tryz.prog ops Q (o :: rest) a w :=
  wpList_load_row hgd 23 x ho g hx 23 (u8s X) (0, 0) _ hg Tryz.underlying23 rfl (by rw [size_u8s, hX]; kernel_rfl) h
theorem wpList_seeNon {ops : Array Oper} {rest : List Oper} {o : Oper} {a : Act} {w : World} {Q : Exit → Act → World → Prop} (g : Nat) (X : List Int) (hX : X.length = 12) (hg : w.heap[g]? = some (.cells (u8s X) 171 (0, 0))) (hgd : o.guard = none) (x : Operand) (ho : o.op = .load 171 x)
    (hx : a.eval x = .pointer (some ⟨g, 0, none⟩)) (h : wpList Tryz.prog ops Q rest (a.put o.dst (.agg (u8s X))) w) : wpList Tryz.prog ops Q (o :: rest) a w :=
  wpList_load_row hgd 171 x ho g hx 171 (u8s X) (0, 0) _ hg Tryz.underlying171 rfl (by rw [size_u8s, hX]; kernel_rfl) h
structure Kb (w wr : World) (S : Nat) (K N : List Int) : Prop where
  key : wr.heap[S]? = some (.cells (u8s K) 23 (0, 0))
  non : wr.heap[S + 1]? = some (.cells (u8s N) 171 (0, 0))
  res : wr.heap[S + 1 + 1]? = some (.cells (fil8 [] 64) 174 (0, 0))
  bel : Below S w wr
theorem Kb.on {w wr wx : World} {S : Nat} {K N : List Int} (h : Kb w wr S K N) (hb : Below wr.heap.size wr wx) : Kb w wx S K N := by
  have l1 := (Array.getElem?_eq_some_iff.1 h.key).1
  have l2 := (Array.getElem?_eq_some_iff.1 h.non).1
  have l3 := (Array.getElem?_eq_some_iff.1 h.res).1
  exact ⟨(hb.block _ l1).trans h.key, (hb.block _ l2).trans h.non, (hb.block _ l3).trans h.res, h.bel.trans (hb.mono (by omega))⟩
theorem three_alloc {w : World} {S : Nat} (hS : w.heap.size = S) (o1 o2 o3 : Obj) : (((w.alloc o1).alloc o2).alloc o3).heap[S]? = some o1 ∧ (((w.alloc o1).alloc o2).alloc o3).heap[S + 1]? = some o2 ∧ (((w.alloc o1).alloc o2).alloc o3).heap[S + 1 + 1]? = some o3 ∧ Below S w (((w.alloc o1).alloc o2).alloc o3) := by
  refine ⟨al_old (al_old (al_at hS)), al_old (al_at (by simp [hS])), al_at (by simp [hS]), ?_⟩
  rw [← hS]
  exact (((Below.refl _ _).alloc (Nat.le_refl _) _).alloc (by simp) _).alloc (by simp; omega) _
structure Lk (w wr : World) (S G1 G3 : Nat) (B X : List Int) : Prop where
  res : wr.heap[S + 1 + 1]? = some (.cells (fil8 [] 64) 174 (0, 0))
  wds : wr.heap[G1]? = some (.cells (u32s B) 200 (0, 0))
  out : wr.heap[G3]? = some (.cells (fil8 X 64).toList.toArray 174 (0, 0))
  bel : Below S w wr
theorem Lk.on {w wr wx : World} {S G1 G3 : Nat} {B X : List Int} (h : Lk w wr S G1 G3 B X) (hb : Below wr.heap.size wr wx) : Lk w wx S G1 G3 B X := by
  have l1 := (Array.getElem?_eq_some_iff.1 h.res).1
  have l2 := (Array.getElem?_eq_some_iff.1 h.wds).1
  have l3 := (Array.getElem?_eq_some_iff.1 h.out).1
  exact ⟨(hb.block _ l1).trans h.res, (hb.block _ l2).trans h.wds, (hb.block _ l3).trans h.out, h.bel.trans (hb.mono (by omega))⟩
theorem Lk.copy {w wr wx : World} {S G1 G3 : Nat} {B X : List Int} (h : Lk w wr S G1 G3 B X) (n1 : S + 1 + 1 < G3) (n2 : G1 < G3) (n3 : S ≤ G3) (Y : List Int) (o : Nat) (ho : X.length = o) (hY : X.length + Y.length ≤ 64) (hg : wx.heap[G3]? = some (.cells (splice (fil8 X 64).toList o (Y.map (Value.int .u8))).toArray 174 (0, 0))) (hb : Below G3 wr wx) : Lk w wx S G1 G3 B (X ++ Y) := by
  subst ho
  exact ⟨(hb.block _ n1).trans h.res, (hb.block _ n2).trans h.wds, by rw [hg, fil8_splice X Y 64 hY], h.bel.trans (hb.mono (by omega))⟩
theorem index42 (X : List Int) (hX : X.length = 16) (k : Nat) (hk : k < 16) (w : World) : (Instr.index 200 (.agg (u32s X)) (.int .i64 k)).run Tryz.prog w = .ok (.int .u32 (X.getD k 0)) w :=
  run_index_row Tryz.underlying200 Tryz.underlying112 rfl (by kernel_rfl) k hk (by simp [u32s, hX, hk]) w
theorem slice27 (G i : Nat) (h : i < 16) (x : World) : (Instr.sliceAt 174 (.pointer (some ⟨G, 0, none⟩)) (some (.int .i64 (4 * (i : Int)))) none none).run Tryz.prog x = .ok (.slice (some ⟨G, 4 * i, none⟩) (64 - 4 * i) (64 - 4 * i)) x := by
  have hlen : Tryz.prog.arrayLen 174 = 64 := by kernel_rfl
  have e : (4 * (i : Int)) = ((4 * i : Nat) : Int) := by simp
  rw [e, run_sliceAt_array_l (P := Tryz.prog) x 174 ⟨G, 0, none⟩ (by kernel_rfl) .i64 ((4 * i : Nat) : Int) (by omega) (by rw [hlen]; omega), hlen]
  have hs : (sizeOf (Tryz.prog.elem 174)).run Tryz.prog x = .ok 1 x := by kernel_rfl
  rw [hs, Result.andThen_ok, slicedAt, if_neg (by omega), Addr.add_mid]
  simp
  omega
set_option maxRecDepth 20000 in
set_option maxHeartbeats 2000000 in
theorem block_any (K N : List Int) (c : Int) (w : World) (hK : Byt K) (hKl : K.length = 32) (hN : Byt N) (hNl : N.length = 12) (hc : W32 c) (hT : Tab w) :
    Calls Tryz.prog 119 #[.agg (u8s K), .int .u32 c, .agg (u8s N)] w fun e w' => e = .returned (.agg (u8s (blk K c N))) ∧ Below w.heap.size w w' := by
  obtain ⟨S, hS⟩ : ∃ S, w.heap.size = S := ⟨_, rfl⟩
  have HS : Hid (w.heap.size = S) := hS
  have A3 := three_alloc hS (.cells (u8s K) 23) (.cells (u8s N) 171) (.cells (fil8 [] 64) 174)
  have K0 : Box (Kb w (((w.alloc (.cells (u8s K) 23)).alloc (.cells (u8s N) 171)).alloc (.cells (fil8 [] 64) 174)) S K N) := ⟨A3.1, A3.2.1, A3.2.2.1, A3.2.2.2⟩
  have z64 : fil8 [] 64 = #[.int .u8 0, .int .u8 0, .int .u8 0, .int .u8 0, .int .u8 0, .int .u8 0, .int .u8 0, .int .u8 0, .int .u8 0, .int .u8 0, .int .u8 0, .int .u8 0, .int .u8 0, .int .u8 0, .int .u8 0, .int .u8 0, .int .u8 0, .int .u8 0, .int .u8 0, .int .u8 0, .int .u8 0, .int .u8 0, .int .u8 0, .int .u8 0, .int .u8 0, .int .u8 0, .int .u8 0, .int .u8 0, .int .u8 0, .int .u8 0, .int .u8 0, .int .u8 0, .int .u8 0, .int .u8 0, .int .u8 0, .int .u8 0, .int .u8 0, .int .u8 0, .int .u8 0, .int .u8 0, .int .u8 0, .int .u8 0, .int .u8 0, .int .u8 0, .int .u8 0, .int .u8 0, .int .u8 0, .int .u8 0, .int .u8 0, .int .u8 0, .int .u8 0, .int .u8 0, .int .u8 0, .int .u8 0, .int .u8 0, .int .u8 0, .int .u8 0, .int .u8 0, .int .u8 0, .int .u8 0, .int .u8 0, .int .u8 0, .int .u8 0, .int .u8 0] := rfl
  rw [z64] at K0
  have HT : Box (∀ x, Below S w x → Tab x) := ⟨fun x hx => hT.below (by rw [hS]; exact hx)⟩
  obtain ⟨B, EB⟩ := named (beg K c N)
  have hBl : B.length = 16 := by rw [← EB.out]; exact length_beg K c N
  have hBw : Wrd B := by rw [← EB.out]; exact wrd_beg K c N hK hc hN
  obtain ⟨M, EM⟩ := named (rn B 10)
  have hMl : M.length = 16 := by rw [← EM.out, length_rn, hBl]
  have hMw : Wrd M := by rw [← EM.out]; exact wrd_rn B 10 hBw
  have HE : Box (blk K c N = cb M B 16) := ⟨by rw [blk, EB.out, EM.out]⟩
  have HBg : Box (∀ x, Calls Tryz.prog 124 #[.agg (u8s K), .int .u32 c, .agg (u8s N)] x fun e w' => e = .returned (.agg (u32s B)) ∧ Below x.heap.size x w') := ⟨fun x => by rw [← EB.out]; exact begin_any K N c x hK hKl hN hNl hc⟩
  have HMx : Box (∀ x, Tab x → Calls Tryz.prog 125 #[.agg (u32s B)] x fun e w' => e = .returned (.agg (u32s M)) ∧ Below x.heap.size x w') := ⟨fun x hx => by rw [← EM.out]; exact mixed_any B x hBl hBw hx⟩
  clear hS z64 A3 hT EB EM hK hN hc
  go_enter Tryz.func119, Tryz.ntmps119
  go_upto_region 1 with fail
  rw [HS.out]
  generalize ((w.alloc (.cells (u8s K) 23)).alloc _).alloc _ = x0 at K0 ⊢
  go_wp2_with (first
    | (refine wpList_see16 w2.heap.size M hMl (al_old H4.out.2.2.1) rfl (.tmp 8) rfl rfl ?_)
    | (refine wpList_new16 w2 M hMl ?old ?hold rfl (.tmp 8) (.tmp 17) rfl rfl rfl ?hv ?_; (case hv => rfl); (case hold => rfl); intro z2 hz hb; have H4 : Box (Kb w z2 S K N ∧ z2.heap[w1.heap.size]? = some (.cells (u32s B) 200 (0, 0)) ∧ z2.heap[w2.heap.size]? = some (.cells (u32s M) 200 (0, 0)) ∧ w1.heap.size < w2.heap.size ∧ w2.heap.size < z2.heap.size) := ⟨H3.out.1.on hb, (hb.block _ H3.out.2.2).trans H3.out.2.1, hz, H3.out.2.2, (Array.getElem?_eq_some_iff.1 hz).1⟩; clear hz hb)
    | (go_at_call 125; refine (HMx.out _ (HT.out _ H2.out.1.bel)).mono ?_; rintro e w2 ⟨rfl, hb2⟩; have H3 : Box (Kb w w2 S K N ∧ w2.heap[w1.heap.size]? = some (.cells (u32s B) 200 (0, 0)) ∧ w1.heap.size < w2.heap.size) := ⟨H2.out.1.on hb2, (hb2.block _ (Array.getElem?_eq_some_iff.1 H2.out.2).1).trans H2.out.2, Nat.lt_of_lt_of_le (Array.getElem?_eq_some_iff.1 H2.out.2).1 hb2.size⟩; clear hb2)
    | (refine wpList_see16 w1.heap.size B hBl H2.out.2 rfl (.tmp 7) rfl rfl ?_)
    | (refine wpList_new16 w1 B hBl ?old ?hold rfl (.tmp 7) (.tmp 15) rfl rfl rfl ?hv ?_; (case hv => rfl); (case hold => rfl); intro z1 hz hb; have H2 : Box (Kb w z1 S K N ∧ z1.heap[w1.heap.size]? = some (.cells (u32s B) 200 (0, 0))) := ⟨H1.out.on hb, hz⟩; clear hz hb)
    | (go_at_call 124; refine (HBg.out _).mono ?_; rintro e w1 ⟨rfl, hb1⟩; have H1 : Box (Kb w w1 S K N) := ⟨K0.out.on hb1⟩; clear hb1)
    | (refine wpList_seeNon (S + 1) N hNl K0.out.non rfl (.tmp 5) rfl rfl ?_)
    | (refine wpList_seeKey S K hKl K0.out.key rfl (.tmp 3) rfl rfl ?_))
  have hlt4 := H4.out.2.2.2
  have L0 : Box (Lk w (z2.alloc (.cells (fil8 [] 64) 174)) S w1.heap.size z2.heap.size B (cb M B 0)) := ⟨al_old H4.out.1.res, al_old H4.out.2.1, al_at rfl, H4.out.1.bel.alloc (by have := (Array.getElem?_eq_some_iff.1 H4.out.1.key).1; omega) _⟩
  have HNs : S + 1 + 1 < z2.heap.size ∧ w1.heap.size < z2.heap.size ∧ S ≤ z2.heap.size := ⟨(Array.getElem?_eq_some_iff.1 H4.out.1.res).1, by omega, by have := (Array.getElem?_eq_some_iff.1 H4.out.1.key).1; omega⟩
  have z64 : fil8 [] 64 = #[.int .u8 0, .int .u8 0, .int .u8 0, .int .u8 0, .int .u8 0, .int .u8 0, .int .u8 0, .int .u8 0, .int .u8 0, .int .u8 0, .int .u8 0, .int .u8 0, .int .u8 0, .int .u8 0, .int .u8 0, .int .u8 0, .int .u8 0, .int .u8 0, .int .u8 0, .int .u8 0, .int .u8 0, .int .u8 0, .int .u8 0, .int .u8 0, .int .u8 0, .int .u8 0, .int .u8 0, .int .u8 0, .int .u8 0, .int .u8 0, .int .u8 0, .int .u8 0, .int .u8 0, .int .u8 0, .int .u8 0, .int .u8 0, .int .u8 0, .int .u8 0, .int .u8 0, .int .u8 0, .int .u8 0, .int .u8 0, .int .u8 0, .int .u8 0, .int .u8 0, .int .u8 0, .int .u8 0, .int .u8 0, .int .u8 0, .int .u8 0, .int .u8 0, .int .u8 0, .int .u8 0, .int .u8 0, .int .u8 0, .int .u8 0, .int .u8 0, .int .u8 0, .int .u8 0, .int .u8 0, .int .u8 0, .int .u8 0, .int .u8 0, .int .u8 0] := rfl
  rw [z64] at L0
  generalize z2.alloc (.cells _ 174) = x3 at L0 ⊢
  generalize z2.heap.size = G3 at L0 HNs ⊢
  obtain ⟨G1, HG1⟩ : ∃ G, Box (w1.heap.size = G) := ⟨_, ⟨rfl⟩⟩
  rw [HG1.out] at L0 HNs ⊢
  obtain ⟨n1, n2, n3⟩ := HNs
  clear K0 HT HBg HMx H1 H2 H3 H4 hlt4 z64 HG1
  go_loopw [19] (fun i wr => ∃ k : Nat, k ≤ 16 ∧ i = .int .i64 k ∧ Box (Lk w wr S G1 G3 B (cb M B k))) (fun i _ => 16 - (intOf i).toNat)
  case atStart => exact ⟨0, by omega, rfl, L0⟩
  case round =>
    clear L0
    obtain ⟨i, hi, rfl, HL⟩ := hrel
    by_cases hlt : i < 16
    · have hidx := index42 M hMl i hlt
      have hsl := slice27 G3 i hlt
      have hw4 : IntKind.i64.wrap (4 * (i : Int)) = 4 * (i : Int) := by rw [IntKind.wrap_i64]; omega
      have hm := hMw i
      have hb := hBw i
      have c1 : wr.drew.cell? ⟨G1, i, none⟩ = some (.int .u32 (B.getD i 0)) := u32_cell wr G1 i B _ _ HL.out.wds (by omega)
      have HLd : Box (Lk w wr.drew S G1 G3 B (cb M B i)) := ⟨HL.out.res, HL.out.wds, HL.out.out, HL.out.bel.drew⟩
      have HO : Box (W32 (ow M B i)) := ⟨W32.ow M B i⟩
      have HX : Box (IntKind.u64.wrap ((M.getD i 0 + B.getD i 0) % 4294967296) = ow M B i) := ⟨by rw [IntKind.wrap_u64]; have := W32.ow M B i; unfold ow at this ⊢; unfold W32 at this; omega⟩
      have HMIN : Box (((bytesOf (ow M B i) 4).map (Value.int .u8)).length = Nat.min 4 (64 - 4 * i)) := ⟨by rw [List.length_map, length_bytesOf]; exact (Nat.min_eq_left (by omega)).symm⟩
      have HFIT : Box (4 * i + ((bytesOf (ow M B i) 4).map (Value.int .u8)).length ≤ (fil8 (cb M B i) 64).toList.length) := ⟨by rw [List.length_map, length_bytesOf]; have : (fil8 (cb M B i) 64).toList.length = 64 := size_fil8 _ _ (by rw [length_cb]; omega); omega⟩
      generalize M.getD i 0 = m at hidx hm HX
      generalize B.getD i 0 = b at c1 hb HX
      obtain ⟨m0, m1⟩ := hm
      obtain ⟨b0, b1⟩ := hb
      clear HL
      go_wp2
      refine wp_region_any (by kernel_rfl) ?_
      change wpAny _ _ _ _ _ _ _ (World.drew _)
      generalize World.drew wr = y7 at HLd c1 ⊢
      refine wpAny_take (i := 0) (v := ?_) rfl (by kernel_rfl) (by kernel_rfl) (by kernel_rfl) (fun _ _ _ h => h) (Or.inl ⟨by rfl, ?_⟩) ?_
      rotate_left
      · intro w'; go_simp <;> with_reducible rfl
      try simp only [Act.put, List.setIfInBounds_toArray, List.set_cons_zero, List.set_cons_succ, List.getElem_toArray, List.getElem_cons_zero]
      refine wpAny_take (i := 1) (v := ?_) rfl (by kernel_rfl) (by kernel_rfl) (by kernel_rfl) (fun _ _ _ h => h) (Or.inl ⟨by rfl, ?_⟩) ?_
      rotate_left
      · intro w'; go_simp <;> with_reducible rfl
      try simp only [Act.put, List.setIfInBounds_toArray, List.set_cons_zero, List.set_cons_succ, List.getElem_toArray, List.getElem_cons_zero, List.getElem_cons_succ]
      refine wpAny_take (i := 2) (v := ?_) rfl (by kernel_rfl) (by kernel_rfl) (by kernel_rfl) (fun _ _ _ h => h) (Or.inl ⟨by rfl, ?_⟩) ?_
      rotate_left
      · intro w'; go_simp <;> with_reducible rfl
      try simp only [Act.put, List.setIfInBounds_toArray, List.set_cons_zero, List.set_cons_succ, List.getElem_toArray, List.getElem_cons_zero, List.getElem_cons_succ]
      refine wpAny_take (i := 3) (v := ?_) rfl (by kernel_rfl) (by kernel_rfl) (by kernel_rfl) (fun _ _ _ h => h) (Or.inl ⟨by rfl, ?_⟩) ?_
      rotate_left
      · intro w'; go_simp <;> with_reducible rfl
      try simp only [Act.put, List.setIfInBounds_toArray, List.set_cons_zero, List.set_cons_succ, List.getElem_toArray, List.getElem_cons_zero, List.getElem_cons_succ]
      refine wpAny_take (i := 4) (v := ?_) rfl (by kernel_rfl) (by kernel_rfl) (by kernel_rfl) (fun _ _ _ h => h) (Or.inl ⟨by rfl, ?_⟩) ?_
      rotate_left
      · intro w'; go_simp <;> with_reducible rfl
      try simp only [Act.put, List.setIfInBounds_toArray, List.set_cons_zero, List.set_cons_succ, List.getElem_toArray, List.getElem_cons_zero, List.getElem_cons_succ]
      refine wpAny_take (i := 5) (v := ?_) rfl (by kernel_rfl) (by kernel_rfl) (by kernel_rfl) (fun _ _ _ h => h) (Or.inl ⟨by rfl, ?_⟩) ?_
      rotate_left
      · intro w'; go_simp <;> with_reducible rfl
      try simp only [Act.put, List.setIfInBounds_toArray, List.set_cons_zero, List.set_cons_succ, List.getElem_toArray, List.getElem_cons_zero, List.getElem_cons_succ]
      refine wpAny_ready (rs := [6]) (by kernel_rfl) (by simp) ?_
      refine AllReady.cons rfl (fun K hK => ?_) AllReady.nil
      rw [if_pos (by rfl)]
      go_simp
      refine hK _ _ ?_
      clear hK K
      try simp only [Act.put, List.setIfInBounds_toArray, List.set_cons_zero, List.set_cons_succ, List.getElem_toArray, List.getElem_cons_zero, List.getElem_cons_succ]
      refine wpAny_take (i := 7) (v := ?_) rfl (by kernel_rfl) (by kernel_rfl) (by kernel_rfl) (fun _ _ _ h => h) (Or.inl ⟨by rfl, ?_⟩) ?_
      rotate_left
      · intro w'; go_simp <;> with_reducible rfl
      try simp only [Act.put, List.setIfInBounds_toArray, List.set_cons_zero, List.set_cons_succ, List.getElem_toArray, List.getElem_cons_zero, List.getElem_cons_succ]
      refine wpAny_take (i := 8) (v := ?_) rfl (by kernel_rfl) (by kernel_rfl) (by kernel_rfl) (fun _ _ _ h => h) (Or.inl ⟨by rfl, ?_⟩) ?_
      rotate_left
      · intro w'; go_simp <;> with_reducible rfl
      try simp only [Act.put, List.setIfInBounds_toArray, List.set_cons_zero, List.set_cons_succ, List.getElem_toArray, List.getElem_cons_zero, List.getElem_cons_succ]
      refine wpAny_ready (rs := [9]) (by kernel_rfl) (by simp) ?_
      refine AllReady.cons rfl (fun K hK => ?_) AllReady.nil
      rw [if_pos (by rfl)]
      go_simp
      refine Calls.mono (put_k _ (ow M B i) 4 _ _ HO.out.1 (by have := HO.out.2; omega) (by omega) (by omega) rfl HX.out) ?_
      rintro e y8 ⟨g, rfl, hB8, hb8⟩
      have H8 : Box (Lk w y8 S G1 G3 B (cb M B i) ∧ Bytes y8 (some ⟨g, 0, none⟩) 4 (bytesOf (ow M B i) 4)) := ⟨HLd.out.on hb8, hB8⟩
      clear hB8 hb8
      refine hK _ _ ?_
      clear hK K
      try simp only [Act.put, List.setIfInBounds_toArray, List.set_cons_zero, List.set_cons_succ, List.getElem_toArray, List.getElem_cons_zero, List.getElem_cons_succ]
      refine wpAny_ready (rs := [10]) (by kernel_rfl) (by simp) ?_
      refine AllReady.cons rfl (fun K hK => ?_) AllReady.nil
      refine step_copy_splice rfl (.tmp 25) (.tmp 32) 38 38 rfl 5 Tryz.underlying38 size5 _ _ _ _ _ _ rfl rfl G3 (4 * i) (fil8 (cb M B i) 64).toList 174 H8.out.1.out ((bytesOf (ow M B i) 4).map (Value.int .u8)) HMIN.out (fun hq => ⟨rfl, H8.out.2.src (by omega)⟩) HFIT.out (ints_oneCell _ _) G3 y8 (Below.refl _ _) (Nat.le_refl _) ?_
      intro y9 hg9 hb9
      have I9 : Box (Lk w y9 S G1 G3 B (cb M B (i + 1))) := ⟨H8.out.1.copy n1 n2 n3 (bytesOf (ow M B i) 4) (4 * i) (length_cb M B i) (by rw [length_cb, length_bytesOf]; omega) hg9.out hb9⟩
      clear hg9 hb9 H8
      refine hK _ _ ?_
      clear hK K
      try simp only [Act.put, List.setIfInBounds_toArray, List.set_cons_zero, List.set_cons_succ, List.getElem_toArray, List.getElem_cons_zero, List.getElem_cons_succ]
      refine wpAny_done (by kernel_rfl) ?_ _
      go_wp2
      go_roundw
      case rel => exact ⟨i + 1, by omega, by go_num, I9⟩
      case measure => simp [intOf]; omega
    · obtain rfl : i = 16 := by omega
      rw [← HE.out] at HL
      obtain ⟨X, HX⟩ := named (blk K c N)
      have hXl : X.length = 64 := by rw [← HX.out]; exact length_blk K c N
      rw [HX.out] at HL
      have hsz : (u8s X).size = 64 := by rw [size_u8s, hXl]
      have hall := all_u8s X
      have HW := HL.out.out
      rw [fil8_full X 64 hXl] at HW
      have HF : Box (wr.heap[G3]? = some (.cells (u8s X) 174 (0, 0)) ∧ wr.heap[S + 1 + 1]? = some (.cells (fil8 [] 64) 174 (0, 0)) ∧ Below S w wr) := ⟨HW, HL.out.res, HL.out.bel⟩
      clear HW HL
      go_wp2_with (first | (refine wpList_load_row rfl 174 _ rfl G3 rfl 174 (u8s X) (0, 0) _ HF.out.1 Tryz.underlying174 rfl (by rw [hsz]; kernel_rfl) ?_) | (refine wpList_store_row rfl 174 _ _ rfl (S + 1 + 1) (u8s X) rfl rfl 174 (fil8 [] 64) HF.out.2.1 (by rw [hsz]; kernel_rfl) (by rw [hsz]; rfl) hall ?_))
      (try simp only [Exit.inBlock, Exit.then])
      refine bodyPost_ret (results_cell_row (p := 6) (ty := 174) rfl _ _ (S + 1 + 1) 174 (u8s X) (0, 0) _ rfl (setRow_heap _ _ _ _ _ _ HF.out.2.1) Tryz.underlying174 rfl (by rw [hsz]; kernel_rfl)) rfl ?_
      exact ⟨by rw [HX.out], by rw [HS.out]; exact below_setRow HF.out.2.2 (by omega) _⟩
end Go.Proofs.YthbbijaikcmaeaaGreatDoor.Seal
