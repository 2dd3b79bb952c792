/-
  What slices.Delete, at a row of blocks, and the Go method forget of package buffers leave: the row without one of its blocks.
-/
import Derived.Test.YthjfobcfdpogeaaBC
namespace Go.Proofs.Ythjfobcfdpogeaa
set_option linter.unusedVariables false
open Go.RowKit Plain

theorem exec_slice3 {o : Oper} {a : Act} {w' : World} (t : TypeId) (x : Operand) (lo hi mx : Option Operand) (ho : o.op = .slice t x lo hi mx) (r : Value) (h : (Instr.sliceAt t (a.eval x) (lo.map a.eval) (hi.map a.eval) (mx.map a.eval)).run Try.prog w' = .ok r w') :
    (execOp a.eval o).run Try.prog w' = .ok (.value r) w' := by
  unfold execOp
  simp only [ho, Sem.run_bind, Sem.run_pure, h, Result.andThen_ok]
theorem sliceK_lhm (g n cap lo hi m : Nat) (h1 : lo ≤ hi) (h2 : hi ≤ m) (hc : m ≤ cap) (x : World) : (Instr.sliceAt 55 (.slice (some ⟨g, 0, none⟩) n cap) (some (.int .i64 (lo : Int))) (some (.int .i64 (hi : Int))) (some (.int .i64 (m : Int)))).run Try.prog x = .ok (.slice (some ⟨g, beh m lo, none⟩) (hi - lo) (m - lo)) x := by
  have hu : Try.prog.underlying 55 = some (.slice (Try.prog.elem 55)) := by kernel_rfl
  rw [run_sliceAt_slice (P := Try.prog) x 55 _ _ _ _ hu, run_slice_lhm (P := Try.prog) x 55 _ n cap hu .i64 .i64 .i64 (lo : Int) (hi : Int) (m : Int) (by omega) (by omega) (by omega) (by omega)]
  have hs : (sizeOf (Try.prog.elem 55)).run Try.prog x = .ok 3 x := by kernel_rfl
  rw [hs, Result.andThen_ok, sliced, beh]
  by_cases e : m = lo <;> simp [e, Addr.add_mid]
theorem wp_appRoom {o : Oper} {a : Act} {w : World} {K : Act → World → Prop} {Q : Exit → Act → World → Prop} (s x : Operand) (ho : o.op = .call { callee := .builtin .append, args := #[s, x], argTypes := #[55, 55] }) (g sLen sCap m c : Nat) (cur : Array Value) (ad : Addr) (news : List Value)
    (hs : a.eval s = .slice (some ⟨g, 0, none⟩) sLen sCap) (hx : a.eval x = .slice (some ad) m c) (hg : w.heap[g]? = some (.cells cur 60 (0, 0))) (hl : news.length = m * 3) (hnews : ∀ j u, news[j]? = some u → w.cell? (ad.add j) = some u) (h1 : ∀ u ∈ news, u.oneCell' = true) (hroom : sLen + m ≤ sCap) (hfit : sLen * 3 + news.length ≤ cur.size)
    (h : K (a.put o.dst (.slice (some ⟨g, 0, none⟩) (sLen + m) sCap)) (w.setRow g (cur.toList.take (sLen * 3) ++ news ++ cur.toList.drop (sLen * 3 + news.length)).toArray)) : Oper.wp Try.prog o a w K Q := by
  have hq : ∃ i, Try.prog.info? 60 = some i ∧ i.size = 3 := by
    have hs : (Try.prog.info? 60).map (·.size) = some 3 := sizeK
    cases hq : Try.prog.info? 60 with
    | none => simp [hq] at hs
    | some i => exact ⟨i, rfl, by simpa [hq] using hs⟩
  obtain ⟨i, hi, hsz⟩ := hq
  have hr := run_append_room (P := Try.prog) w 55 o.type 60 i Try.underlying55 hi g sLen sCap cur hg ad m c news (by rw [hsz]; exact hl) hnews h1 hroom (by rw [hsz]; exact hfit)
  rw [hsz] at hr
  unfold Oper.wp execOp
  simp only [ho, resolve, invoke, builtin, Sem.run_bind, Sem.run_pure, Result.andThen_ok, List.map_toArray, List.map_cons, List.map_nil, hs, hx, hr]
  exact h
/-- The noughts that clear lays. -/
def clr : List Value := (Builtin.zeroCells #[.int .u64 0, .slice none 0 0, .int .u64 0] 1).toList
theorem clr_is : clr = [.int .u64 0, .slice none 0 0, .int .u64 0] := by kernel_rfl
theorem wpList_clear {ops : Array Oper} {rest : List Oper} {o : Oper} {act : Act} {w : World} {Q : Exit → Act → World → Prop} (hgd : o.guard = none) (x : Operand) (ho : o.op = .call { callee := .builtin .clear, args := #[x], argTypes := #[55] }) (g off c : Nat) (hx : act.eval x = .slice (some ⟨g, off, none⟩) 1 c)
    (ht : w.there g off 3) (h : wpList Try.prog ops Q rest (act.put o.dst (.tuple #[])) (w.setCells g off clr)) : wpList Try.prog ops Q (o :: rest) act w := by
  have hlen : clr.length = 3 := by rw [clr_is]; rfl
  have hst := run_storeCells_cells (P := Try.prog) g off clr 0 w (fun j hj => by rw [hlen] at hj; simpa using (ht j hj).1) (fun j hj => by rw [hlen] at hj; simpa using (ht j hj).2) (by rw [clr_is]; intro u hu; simp at hu; rcases hu with rfl | rfl | rfl <;> rfl)
  simp only [Nat.add_zero] at hst
  have hz : (zeroValue 60).run Try.prog w = .ok (.agg #[.int .u64 0, .slice none 0 0, .int .u64 0]) w := by kernel_rfl
  have hr : (Builtin.clear_ #[55] o.type #[.slice (some ⟨g, off, none⟩) 1 c]).run Try.prog w = .ok (.tuple #[]) (w.setCells g off clr) := by
    simp only [Builtin.clear_, List.getElem?_toArray, List.getElem?_cons_zero, Sem.run_bind, run_underlying Try.underlying55, Result.andThen_ok, hz, Value.cells, Sem.run_pure]
    rw [show (Builtin.zeroCells #[.int .u64 0, .slice none 0 0, .int .u64 0] 1).toList = clr from rfl, hst]
    rfl
  refine wpList_plain hgd fun _ hK => ?_
  unfold Oper.wp execOp
  simp only [ho, resolve, invoke, builtin, Sem.run_bind, Sem.run_pure, Result.andThen_ok, List.map_toArray, List.map_cons, List.map_nil, hx, hr]
  exact hK _ _ h
theorem but_setRow {g : Nat} {w w1 : World} (h : But g w w1) (cs : Array Value) : But g w (w1.setRow g cs) := by
  have hs : (w1.setRow g cs).heap.size = w1.heap.size := by simp [World.setRow]
  refine ⟨?_, ?_, ?_, by rw [hs]; exact h.size, fun k hk hn => ?_⟩
  · simpa [World.setRow] using h.os
  · simpa [World.setRow] using h.tape
  · simpa [World.setRow] using h.output
  · rw [show (w1.setRow g cs).heap[k]? = w1.heap[k]? by simp [World.setRow, Array.getElem?_modify, Ne.symm hn]]
    exact h.block k hk hn
/-- What is left in the row's block. -/
theorem del_row {w : World} {g cap : Nat} {cur : Array Value} {L : List Kp} (hc : L.length ≤ cap) (hm : cap ≤ maxLen) (hs : cur.size = cap * 3) (htk : cur.toList.take (L.length * 3) = kcs L) (i : Nat) (hi : i < L.length)
    (hg : w.heap[g]? = some (.cells (cur.toList.take (i * 3) ++ kcs (L.drop (i + 1)) ++ cur.toList.drop (i * 3 + (kcs (L.drop (i + 1))).length)).toArray 60 (0, 0))) :
    w.there g ((L.length - 1) * 3) 3 ∧ Row (w.setCells g ((L.length - 1) * 3) clr) (.slice (some ⟨g, 0, none⟩) (L.eraseIdx i).length cap) (L.eraseIdx i) := by
  have hcl : cur.toList.length = cap * 3 := by rw [Array.length_toList, hs]
  have h3 := Nat.mul_le_mul_right 3 hc
  have hle : (L.eraseIdx i).length = L.length - 1 := by rw [List.length_eraseIdx, if_pos hi]
  have e0 : cur.toList.take (i * 3) = kcs (L.take i) := by
    rw [← kcs_take L i (by omega), ← htk, List.take_take, Nat.min_eq_left (Nat.mul_le_mul_right 3 (by omega))]
  have e1 : cur.toList.take (i * 3) ++ kcs (L.drop (i + 1)) = kcs (L.eraseIdx i) := by rw [e0, ← kcs_app, List.eraseIdx_eq_take_drop_succ]
  have hnl : (kcs (L.drop (i + 1))).length = (L.length - 1 - i) * 3 := by rw [length_kcs, List.length_drop]; congr 1; omega
  rw [e1, hnl] at hg
  have hsz : (kcs (L.eraseIdx i) ++ cur.toList.drop (i * 3 + (L.length - 1 - i) * 3)).length = cap * 3 := by
    rw [List.length_append, length_kcs, hle, List.length_drop, hcl]
    omega
  have hlc : clr.length = 3 := by rw [clr_is]; rfl
  refine ⟨there_row hg (by rw [List.size_toArray, hsz]; omega), ?_⟩
  have hr := heap_setCells g _ clr ((L.length - 1) * 3) w _ hg (by rw [List.size_toArray, hsz, hlc]; omega)
  refine ⟨length_kcs _, .inr ⟨g, cap, _, rfl, Nat.zero_le _, hr, by omega, hm, ?_, ?_⟩⟩
  · rw [List.size_toArray, length_splice _ _ _ (by rw [List.toList_toArray, hsz, hlc]; omega), List.toList_toArray, hsz]
  · rw [List.toList_toArray, hle, List.toList_toArray, splice, List.take_left' (by rw [List.length_take, hsz]; omega), List.take_left' (by rw [length_kcs, hle])]
set_option maxRecDepth 20000 in
set_option maxHeartbeats 2000000 in
theorem delete_any (w : World) (g cap : Nat) (cur : Array Value) (L : List Kp) (hg : w.heap[g]? = some (.cells cur 60 (0, 0))) (hc : L.length ≤ cap) (hm : cap ≤ maxLen) (hs : cur.size = cap * 3) (htk : cur.toList.take (L.length * 3) = kcs L) (hlen : L.length < 1000000) (i j : Nat) (hi : i < L.length) (hj : j = i + 1) :
    Calls Try.prog 33 #[.slice (some ⟨g, 0, none⟩) L.length cap, .int .i64 (i : Int), .int .i64 (j : Int)] w fun e w' =>
      e = .returned (.slice (some ⟨g, 0, none⟩) (L.eraseIdx i).length cap) ∧ Row w' (.slice (some ⟨g, 0, none⟩) (L.eraseIdx i).length cap) (L.eraseIdx i) ∧ But g w w' := by
  have hle : (L.eraseIdx i).length = L.length - 1 := by rw [List.length_eraseIdx, if_pos hi]
  have hnl : (kcs (L.drop j)).length = (L.length - j) * 3 := by rw [length_kcs, List.length_drop]
  have hij : ((i : Int) == (j : Int)) = false := by simp; omega
  have hgl := (Array.getElem?_eq_some_iff.1 hg).1
  have HN : Box (∀ x, Below w.heap.size w x → ∀ q u, (kcs (L.drop j))[q]? = some u → x.cell? ((⟨g, beh cap j, none⟩ : Addr).add q) = some u) := ⟨fun x hx q u hq => by
    have hql := (List.getElem?_eq_some_iff.1 hq).1
    rw [hnl] at hql
    have hb : beh cap j = j * 3 := by rw [beh, if_neg (by omega)]
    rw [Addr.add_lit, hb, cell_of_row _ _ _ _ _ _ ((hx.block g hgl).trans hg), ← Array.getElem?_toList]
    have h2 : (kcs L)[j * 3 + q]? = some u := by
      rw [← kcs_drop L j (by omega), List.getElem?_drop] at hq
      exact hq
    rw [← htk, List.getElem?_take] at h2
    split at h2
    · exact h2
    · cases h2⟩
  have HG : Box (∀ x, Below w.heap.size w x → x.heap[g]? = some (.cells cur 60 (0, 0))) := ⟨fun x hx => (hx.block g hgl).trans hg⟩
  obtain ⟨X, hX⟩ : ∃ X, kcs (L.drop j) = X := ⟨_, rfl⟩
  obtain ⟨N, hN⟩ : ∃ N, L.length = N := ⟨_, rfl⟩
  have HX : Box (X.length = (N - j) * 3 ∧ ∀ u ∈ X, u.oneCell' = true) := ⟨by rw [← hX, ← hN]; exact hnl, by rw [← hX]; exact one_kcs _⟩
  have HD : Box (∀ x, Below w.heap.size w x → ((x.setRow g (cur.toList.take (i * 3) ++ X ++ cur.toList.drop (i * 3 + X.length)).toArray).there g ((N - 1) * 3) 3) ∧ Row ((x.setRow g (cur.toList.take (i * 3) ++ X ++ cur.toList.drop (i * 3 + X.length)).toArray).setCells g ((N - 1) * 3) clr) (.slice (some ⟨g, 0, none⟩) (N - 1) cap) (L.eraseIdx i) ∧ But g w ((x.setRow g (cur.toList.take (i * 3) ++ X ++ cur.toList.drop (i * 3 + X.length)).toArray).setCells g ((N - 1) * 3) clr)) := ⟨fun x hx => by
    have h1 := setRow_heap x g cur (cur.toList.take (i * 3) ++ X ++ cur.toList.drop (i * 3 + X.length)).toArray 60 (0, 0) ((hx.block g hgl).trans hg)
    rw [← hX, hj] at h1
    obtain ⟨d1, d2⟩ := del_row hc hm hs htk i hi h1
    rw [← hX, hj, ← hN]
    rw [hle] at d2
    exact ⟨d1, d2, But.setCells (G := g) clr _ (but_setRow (But.of_below hx) _)⟩⟩
  have HF : Box (i * 3 + X.length ≤ cur.size) := ⟨by
    rw [HX.out.1, hs]
    omega⟩
  have HE : Box ((L.eraseIdx i).length = N - 1 ∧ i + (N - j) = N - 1) := ⟨by omega, by omega⟩
  rw [hX] at HN
  rw [hN] at hi hc hlen
  have hcm : cap ≤ 9223372036854775807 := hm
  have hj1 : i < j := by omega
  have hj2 : j ≤ N := by omega
  rw [hN]
  clear hj
  clear hg hs htk hX hnl hN hle hgl hm
  go_enter Try.func33, Try.ntmps33
  go_upto_region 5 with (refine atSlice _ ?_; refine wpList_run rfl _ _ (exec_slice3 55 (.tmp 8) (some (.tmp 9)) (some (.tmp 10)) (some (.tmp 12)) rfl _ (sliceK_lhm g N cap i j N (by omega) (by omega) (by omega) _)) ?_)
  refine begin_keep (S := fun _ => True) (by kernel_rfl) (fun wd hwd => ?_)
  have hbd : Below w.heap.size w wd := by rw [hwd]; exact (Below.refl _ _).drew
  clear hwd
  have hS : True := trivial
  refine take_s (i := 0) (v := ?_) rfl (by kernel_rfl) (by kernel_rfl) (by kernel_rfl) (fun _ _ _ h => h) (by rfl) ?_ hS ?_
  rotate_left
  · intro w' hLat; clear hLat; go_simp <;> with_reducible rfl
  try simp only [Act.put, List.setIfInBounds_toArray, List.set_cons_zero, List.set_cons_succ, List.getElem_toArray, List.getElem_cons_zero]
  refine take_s (i := 1) (v := ?_) rfl (by kernel_rfl) (by kernel_rfl) (by kernel_rfl) (fun _ _ _ h => h) (by rfl) ?_ hS ?_
  rotate_left
  · intro w' hLat; clear hLat; go_simp <;> with_reducible rfl
  try simp only [Act.put, List.setIfInBounds_toArray, List.set_cons_zero, List.set_cons_succ, List.getElem_toArray, List.getElem_cons_zero, List.getElem_cons_succ]
  refine take_s (i := 2) (v := .slice (some ⟨g, 0, none⟩) i cap) rfl (by kernel_rfl) (by kernel_rfl) (by kernel_rfl) (fun _ _ _ h => h) (by rfl) (fun w' hLat => exec_slice 55 (.tmp 20) none (some (.tmp 21)) rfl _ (sliceK_hi g N cap i (by omega) _)) hS ?_
  try simp only [Act.put, List.setIfInBounds_toArray, List.set_cons_zero, List.set_cons_succ, List.getElem_toArray, List.getElem_cons_zero, List.getElem_cons_succ]
  refine take_s (i := 3) (v := ?_) rfl (by kernel_rfl) (by kernel_rfl) (by kernel_rfl) (fun _ _ _ h => h) (by rfl) ?_ hS ?_
  rotate_left
  · intro w' hLat; clear hLat; go_simp <;> with_reducible rfl
  try simp only [Act.put, List.setIfInBounds_toArray, List.set_cons_zero, List.set_cons_succ, List.getElem_toArray, List.getElem_cons_zero, List.getElem_cons_succ]
  refine take_s (i := 4) (v := ?_) rfl (by kernel_rfl) (by kernel_rfl) (by kernel_rfl) (fun _ _ _ h => h) (by rfl) ?_ hS ?_
  rotate_left
  · intro w' hLat; clear hLat; go_simp <;> with_reducible rfl
  try simp only [Act.put, List.setIfInBounds_toArray, List.set_cons_zero, List.set_cons_succ, List.getElem_toArray, List.getElem_cons_zero, List.getElem_cons_succ]
  refine take_s (i := 5) (v := .slice (some ⟨g, beh cap j, none⟩) (N - j) (cap - j)) rfl (by kernel_rfl) (by kernel_rfl) (by kernel_rfl) (fun _ _ _ h => h) (by rfl) (fun w' hLat => exec_slice 55 (.tmp 23) (some (.tmp 24)) none rfl _ (sliceK_lo g N cap j (by omega) (by omega) _)) hS ?_
  try simp only [Act.put, List.setIfInBounds_toArray, List.set_cons_zero, List.set_cons_succ, List.getElem_toArray, List.getElem_cons_zero, List.getElem_cons_succ]
  refine one_keep (i := 6) (by kernel_rfl) ?_
  refine keep_step rfl (by rfl) ?_
  refine wp_appRoom (.tmp 22) (.tmp 25) rfl g i cap (N - j) (cap - j) cur ⟨g, beh cap j, none⟩ X rfl rfl (HG.out wd hbd) HX.out.1 (HN.out wd hbd) HX.out.2 (by omega) HF.out ?_
  have H5 : Box _ := ⟨HD.out wd hbd⟩
  generalize wd.setRow g (cur.toList.take (i * 3) ++ X ++ cur.toList.drop (i * 3 + X.length)).toArray = w2 at H5 ⊢
  rw [HE.out.2]
  refine ⟨trivial, ?_⟩
  try simp only [Act.put, List.setIfInBounds_toArray, List.set_cons_zero, List.set_cons_succ, List.getElem_toArray, List.getElem_cons_zero, List.getElem_cons_succ]
  refine take_s (i := 7) (v := ?_) rfl (by kernel_rfl) (by kernel_rfl) (by kernel_rfl) (fun _ _ _ h => h) (by rfl) ?_ hS ?_
  rotate_left
  · intro w' hLat; clear hLat; go_simp <;> with_reducible rfl
  try simp only [Act.put, List.setIfInBounds_toArray, List.set_cons_zero, List.getElem_toArray, List.getElem_cons_zero, List.getElem_cons_succ]
  refine wpAnyH_done (by kernel_rfl) ?_ _
  clear hbd HD HN HG HX HF
  have hs1 := sliceK_mid g (N - 1) cap (N - 1) N (by omega) (by omega)
  have hb1 : beh cap (N - 1) = (N - 1) * 3 := by rw [beh, if_neg (by omega)]
  rw [hb1, show N - (N - 1) = 1 by omega] at hs1
  obtain ⟨M, hM⟩ : ∃ M, N - 1 = M := ⟨_, rfl⟩
  rw [hM] at hs1 H5 ⊢
  have HM : Box (N - 1 = M) := ⟨hM⟩
  clear hM hb1
  go_wp2_with (first
    | (refine atSlice _ ?_; refine wpList_run rfl _ _ (exec_slice 55 (.tmp 27) (some (.tmp 29)) (some (.tmp 30)) rfl _ (hs1 _)) ?_)
    | (refine wpList_clear rfl _ rfl g (M * 3) (cap - M) rfl H5.out.1 ?_))
  go_ret
  rw [HE.out.1, HM.out]
  exact ⟨rfl, H5.out.2⟩
set_option maxHeartbeats 1000000 in
theorem forget_any (w : World) (B C : Nat) (n : Int) (rv : Value) (L : List Kp) (h : Ca w B C n rv L) (i : Nat) (hi : i < L.length) :
    Calls Try.prog 29 #[.pointer (some ⟨C, 0, none⟩), .int .i64 (i : Int)] w fun e w' => e = .returned (.tuple #[]) ∧ (∃ rv', Ca w' B C n rv' (L.eraseIdx i)) ∧ Fr B w w' := by
  obtain ⟨g, cap, cur, rfl, hg, hc, hm, hs, htk⟩ := h.row.blk (by omega)
  obtain ⟨-, c1, fz⟩ := h.cells
  have hneC : C ≠ g := fun e => h.ne (by rw [e]; rfl)
  have hlen := h.len
  have HD : Box _ := ⟨delete_any w g cap cur L hg hc hm hs htk hlen i (i + 1) hi rfl⟩
  have HA : Box (∀ w2, Row w2 (.slice (some ⟨g, 0, none⟩) (L.eraseIdx i).length cap) (L.eraseIdx i) → But g w w2 → w2.cell? ⟨C, 1, none⟩ = some (.slice (some ⟨g, 0, none⟩) L.length cap) ∧ w2.frozen? ⟨C, 1, none⟩ = false ∧ Ca (w2.setCell ⟨C, 1, none⟩ (.slice (some ⟨g, 0, none⟩) (L.eraseIdx i).length cap)) B C n (.slice (some ⟨g, 0, none⟩) (L.eraseIdx i).length cap) (L.eraseIdx i) ∧ Fr B w (w2.setCell ⟨C, 1, none⟩ (.slice (some ⟨g, 0, none⟩) (L.eraseIdx i).length cap))) := ⟨fun w2 hr hb => by
    have hC2 : w2.heap[C]? = w.heap[C]? := hb.block C h.lt hneC
    refine ⟨but_cell hb c1 hneC, (World.frozen?_of_block hC2).trans (fz 1), h.turn hC2 hr (fun x hx => h.u x (List.mem_of_mem_eraseIdx hx)) (fun k hk => h.hR k hk) ?_, fr_set (fr_but (Fr.refl _ _) hb (h.hR g rfl) (fun _ => h.ckr rfl)) h.hC h.ck _⟩
    rw [List.length_eraseIdx, if_pos hi]
    omega⟩
  clear hg hs htk h fz hneC hm hc
  have hi2 : i < 1000000 := by omega
  go_enter Try.func29, Try.ntmps29
  go_wp2_with (go_at_call 33; refine HD.out.mono ?_; rintro e w2 ⟨rfl, hr, hb⟩; have H2 : Box _ := ⟨HA.out w2 hr hb⟩; have c2 := H2.out.1; have f2 := H2.out.2.1; clear hr hb HA)
  go_end0
  exact ⟨rfl, ⟨_, H2.out.2.2.1⟩, H2.out.2.2.2⟩
end Go.Proofs.Ythjfobcfdpogeaa
