/-
  What appending comes to where the disk tells no error: plainly. And what follows it.
-/
import Derived.Test.YtcggbnggmglphaaDoorQ37
import Derived.Lib.AppendStr
import Derived.Test.YtcggbnggmglphaaDoorQ08
import Derived.Test.YtcggbnggmglphaaDoorQ19
import Derived.Test.YtcggbnggmglphaaDoorQ32
namespace Go.Proofs.YtcggbnggmglphaaDoor
set_option maxRecDepth 100000
set_option linter.unusedVariables false
open Go.RowKit Plain
/-- A disk that is neither down nor told to stop. -/
def Up (d : Disk.Dk) : Prop := d.down = false ∧ d.st = false
theorem dwr_up {d : Disk.Dk} (h : Up d) (p : Nat) (S : List Int) : dwr d p S = (Disk.wrOk d p S, 0) := by simp [dwr, h.1, h.2]
theorem up_wr {d : Disk.Dk} (h : Up d) (p : Nat) (S : List Int) : Up (Disk.wrOk d p S) := h
/-- The places that are written. -/
def pls (j : Jt) (k n : Nat) : List Nat := (List.range n).map fun x => plc j (k + x)
theorem pls_succ (j : Jt) (k n : Nat) : pls j k (n + 1) = plc j k :: pls j (k + 1) n := by
  unfold pls
  rw [List.range_succ_eq_map, List.map_cons, List.map_map]
  congr 1
  apply List.map_congr_left
  intro x _
  simp only [Function.comp]
  congr 1
  omega
/-- What holds behind records that were written. -/
structure ApU (j : Jt) (d : Disk.Dk) (nx : Int) (s : Jst) (n : Nat) (y : Ast) : Prop where
  up : Up y.1
  nn : y.1.n = d.n
  pl : y.1.pl = d.pl
  ops : y.1.ops = d.ops ++ (pls j (s.start + s.count) n).map fun (p : Nat) => ((2 : Int), (p : Int))
  uw : ∃ W : List (Nat × List Int), y.1.uw = d.uw ++ W ∧ W.map Prod.fst = pls j (s.start + s.count) n
  left : y.1.left = d.left
  nx : y.2.1 = nx + (n : Int)
  er : y.2.2.1 = 0
  st : y.2.2.2.start = s.start
  ct : y.2.2.2.count = s.count + n
  tg : y.2.2.2.tag.length = 32 ∧ Byt y.2.2.2.tag
theorem apL_up (j : Jt) : ∀ (L : List ((Int × List Int) × Bool)) (d : Disk.Dk) (nx : Int) (s : Jst), Up d → s.tag.length = 32 ∧ Byt s.tag → ApU j d nx s L.length (apL j (d, nx, 0, s) L)
  | [], d, nx, s, h, ht => ⟨h, rfl, rfl, by simp [pls, apL], ⟨[], by simp [apL], rfl⟩, rfl, by show nx = nx + ((0 : Nat) : Int); omega, rfl, rfl, rfl, ht⟩
  | r :: L, d, nx, s, h, ht => by
    have e : apS j (d, nx, 0, s) r = (Disk.wrOk d (plc j (s.start + s.count)) (apT j (d, nx, 0, s) r), nx + 1, 0, nxS j s (plc j (s.start + s.count)) (apT j (d, nx, 0, s) r)) := by
      unfold apS
      rw [if_neg (by simp), dwr_up h]
      rfl
    have e2 : apL j (d, nx, 0, s) (r :: L) = apL j (Disk.wrOk d (plc j (s.start + s.count)) (apT j (d, nx, 0, s) r), nx + 1, 0, nxS j s (plc j (s.start + s.count)) (apT j (d, nx, 0, s) r)) L := by rw [← e]; rfl
    rw [e2]
    have ih := apL_up j L (Disk.wrOk d (plc j (s.start + s.count)) (apT j (d, nx, 0, s) r)) (nx + 1) (nxS j s (plc j (s.start + s.count)) (apT j (d, nx, 0, s) r)) (up_wr h _ _) ⟨length_dsha _, byt_dsha _⟩
    generalize apL j (Disk.wrOk d (plc j (s.start + s.count)) (apT j (d, nx, 0, s) r), nx + 1, 0, nxS j s (plc j (s.start + s.count)) (apT j (d, nx, 0, s) r)) L = y at ih ⊢
    have hst : (nxS j s (plc j (s.start + s.count)) (apT j (d, nx, 0, s) r)).start + (nxS j s (plc j (s.start + s.count)) (apT j (d, nx, 0, s) r)).count = s.start + s.count + 1 := rfl
    have ho := ih.ops
    obtain ⟨W, hW1, hW2⟩ := ih.uw
    rw [hst] at ho hW2
    refine ⟨ih.up, ih.nn, ih.pl, ?_, ⟨(plc j (s.start + s.count), apT j (d, nx, 0, s) r) :: W, ?_, ?_⟩, ?_, ?_, ih.er, ih.st, ?_, ih.tg⟩
    · rw [ho, List.length_cons, pls_succ]
      simp [Disk.wrOk]
    · rw [hW1]
      simp [Disk.wrOk]
    · rw [List.length_cons, pls_succ, List.map_cons, hW2]
    · rw [ih.left]
      simp [Disk.wrOk, h.2]
    · rw [ih.nx, List.length_cons]
      omega
    · rw [ih.ct, List.length_cons]
      show s.count + 1 + L.length = _
      omega
/-- Append where the disk tells no error. -/
theorem appM_up (j : Jt) (ok : j.Ok) (d : Disk.Dk) (L : List (Int × List Int)) (hd : Up d) (hb : bad L = false) (h1 : j.st.count + L.length ≤ j.size) (h2 : j.nx + (L.length : Int) ≤ j.lim) : ApU j d j.nx j.st L.length (appM j d L) := by
  have ht : tke j L.length = 0 := by
    unfold tke
    rw [if_neg (by omega), if_neg (by omega)]
  have h := apL_up j (ofP L) d j.nx j.st hd ⟨ok.st.lt, ok.st.bt⟩
  rw [len_ofP] at h
  have e : appM j d L = apL j (d, j.nx, 0, j.st) (ofP L) := by
    unfold appM
    rw [if_neg (by rw [hb]; simp), if_neg (fun h => h ht), if_neg (fun hh => hh h.er)]
  rw [e]
  exact h
theorem ApU.okS {j : Jt} {d : Disk.Dk} {nx : Int} {s : Jst} {n : Nat} {y : Ast} (h : ApU j d nx s n y) (h1 : s.start ≤ 1000000) (h2 : s.count + n ≤ 1000000) : OkS y.2.2.2 := ⟨h.tg.1, h.tg.2, by rw [h.st]; omega, by rw [h.ct]; omega⟩
end Go.Proofs.YtcggbnggmglphaaDoor
namespace Go.Proofs.YtcggbnggmglphaaDoor
set_option maxRecDepth 100000
set_option linter.unusedVariables false
open Go.RowKit Plain
theorem rof (a : Option Addr) (len cap : Nat) (M : List Int) (w : World) (hb : Bytes w a len M) (hl : len ≤ 900000) :
    Calls Tryd.prog 55 #[.slice a len cap] w fun e w' => e = .returned (.agg (u8s (dsha M))) ∧ Below w.heap.size w w' := Dig.rof_any a len cap M w hb hl
theorem strCells_nums (L : List Int) (hL : Byt L) : Lib.strCells (strOfNums L) = L.map (Value.int .u8) := by
  unfold Lib.strCells
  rw [strOfNums_data, List.map_map]
  apply List.map_congr_left
  intro z hz
  obtain ⟨i, hi, rfl⟩ := List.getElem_of_mem hz
  have := hL i
  rw [List.getD, List.getElem?_eq_getElem hi, Option.getD_some] at this
  simp
  omega
/-- The bytes of a string appended to a row of the call's own. -/
theorem wpList_appStr {ops : Array Oper} {rest : List Oper} {o : Oper} {act : Act} {w : World} {Q : Exit → Act → World → Prop} (hgd : o.guard = none) (s x : Operand)
    (ho : o.op = .call { callee := .builtin .append, args := #[s, x], argTypes := #[58, 9] }) (base n : Nat) (v : Value) (A L : List Int) (w0 : World)
    (hs : act.eval s = v) (hx : act.eval x = .string (strOfNums L)) (hown : w.ownsRow base 5 1 v n (A.map (Value.int .u8))) (hL : Byt L) (hl : n + L.length ≤ 140737488355328) (hbel : Below base w0 w) (hbase : base ≤ w.heap.size)
    (h : ∀ v' w', Box (w'.ownsRow base 5 1 v' (n + L.length) ((A ++ L).map (Value.int .u8)) ∧ Below base w0 w' ∧ base ≤ w'.heap.size) → wpList Tryd.prog ops Q rest (act.put o.dst v') w') : wpList Tryd.prog ops Q (o :: rest) act w := by
  obtain ⟨i0, hi, hz0, hz1, hz2⟩ := info_parts info5
  have hsz := strOfNums_size L
  refine Lib.wpList_append_own_string w hgd s x 58 9 ho base 5 i0 Tryd.underlying58 Tryd.underlying9 hi hz0 hz1 hz2 v n _ hs hown (strOfNums L) hx (by rw [hsz]; unfold maxLen; omega) (by rw [hsz]; exact hl) hbase ?_
  intro v' w' h1 h2 _
  have hz := h2.size
  rw [hsz, strCells_nums L hL] at h1
  exact h v' w' ⟨by rw [List.map_append]; exact h1, hbel.grown h2 hbase (own_block_le hown), by omega⟩
/-- Bytes that were just laid down in a block of their own. -/
theorem own_lit (w : World) (A : List Int) (B : Nat) (hB : B ≤ w.heap.size) (hA : A.length ≤ maxLen) : (w.alloc (.cells (u8s A) 5)).ownsRow B 5 1 (.slice (some ⟨w.heap.size, 0, none⟩) A.length A.length) A.length (A.map (Value.int .u8)) := by
  refine ⟨by simp, .inr ⟨w.heap.size, A.length, u8s A, rfl, hB, heap_alloc_new w _, Nat.le_refl _, hA, by simp [u8s], ?_⟩⟩
  simp [u8s]
  exact List.take_of_length_le (by simp)
theorem rput4 (x x' : Int) (w : World) (hx : 0 ≤ x ∧ x ≤ 4294967295) (he : x' = x) :
    Calls Tryd.prog 49 #[.int .u64 x', .int .i64 4] w fun e w' => ∃ a' cap', e = .returned (.slice a' 4 cap') ∧ Bytes w' a' 4 (bytesOf x 4) ∧ Below w.heap.size w w' :=
  by subst he; exact (rput_any x' 4 4 w ⟨hx.1, by omega⟩ rfl (by omega)).mono fun e w' ⟨a', cap', he, ho⟩ => ⟨a', cap', he, ho.bytes (bytesOf_bd _ 4), ho.2.2⟩
set_option maxHeartbeats 2000000 in
theorem rlink_any (tag : List Int) (p : Int) (L : List Int) (w : World) (ht : tag.length = 32) (htb : Byt tag) (hp : 0 ≤ p ∧ p ≤ 4294967295) (hL : Byt L) (hl : L.length ≤ 800000) :
    Calls Tryd.prog 34 #[.agg (u8s tag), .int .u32 p, .string (strOfNums L)] w fun e w' => e = .returned (.agg (u8s (lnk tag p L))) ∧ Below w.heap.size w w' := by
  unfold lnk
  obtain ⟨X, HX⟩ : ∃ X, Box (dsha (lk tag p L) = X) := ⟨_, ⟨rfl⟩⟩
  have HXs : Box ((u8s X).size = 32) := ⟨by rw [← HX.out, size_u8s, length_dsha]⟩
  obtain ⟨S, hS⟩ : ∃ S, w.heap.size = S := ⟨_, rfl⟩
  have HS : Box (w.heap.size = S ∧ w.heap.size ≤ S + 1) := ⟨hS, by omega⟩
  have HL : Box (Byt L ∧ L.length ≤ 800000 ∧ Byt (lk tag p L)) := ⟨hL, hl, byt_cons _ _ (by omega) (byt_app _ _ htb (byt_app _ _ (bytesOf_bd _ 4) hL))⟩
  obtain ⟨s, HSt⟩ : ∃ s, Box (strOfNums L = s) := ⟨_, ⟨rfl⟩⟩
  have HD : Box ([255] ++ tag ++ bytesOf p 4 ++ L = lk tag p L) := ⟨by simp [lk]⟩
  obtain ⟨AT, hAT⟩ : ∃ A, u8s tag = A := ⟨_, rfl⟩
  obtain ⟨w1, hw1⟩ : ∃ w1, (w.alloc (.cells AT 23)).alloc (.cells (u8s z32) 23) = w1 := ⟨_, rfl⟩
  have hb1 : Below w.heap.size w w1 := by rw [← hw1]; exact ((Below.refl _ _).alloc (Nat.le_refl _) _).alloc (by simp) _
  have r0 : w1.heap[S]? = some (.cells (u8s tag) 23 (0, 0)) := by rw [← hw1, hAT]; exact al_old (al_at hS)
  have r1 : w1.heap[S + 1]? = some (.cells (u8s z32) 23 (0, 0)) := by rw [← hw1]; exact al_at (by simp [hS])
  have hsz1 : w1.heap.size = S + 2 := by rw [← hw1]; simp [hS]
  have hbt : Bytes w1 (some ⟨S, 0, none⟩) 32 tag := by have := bytes_of_row htb r0; rwa [ht] at this
  have H1 : Box (w1.heap[S + 1]? = some (.cells (u8s z32) 23 (0, 0)) ∧ Below w.heap.size w w1 ∧ w1.heap.size = S + 2 ∧ Bytes w1 (some ⟨S, 0, none⟩) 32 tag) := ⟨r1, hb1, hsz1, hbt⟩
  have hs2 : (w.alloc (.cells AT 23)).heap.size = S + 1 := by simp [hS]
  have HTG : Box (Byt tag ∧ tag.length = 32) := ⟨htb, ht⟩
  rw [HSt.out, hAT]
  clear hL hl ht htb hb1 r0 r1 hsz1 hbt hAT
  generalize lk tag p L = M at HX HL HD
  go_enter Tryd.func34, Tryd.ntmps34
  go_upto_region 1 with (refine wpList_run rfl _ _ (exec_alloc 23 rfl _ zeroSum) ?_)
  (try rw [hs2])
  (try simp only [hw1])
  clear hs2 hw1 hS
  have H2 : Box (Pu w1 (w1.alloc (.cells #[.int .u8 255] 5)) (S + 2) (.slice (some ⟨w1.heap.size, 0, none⟩) 1 1) 1 [255] ∧ Bytes (w1.alloc (.cells #[.int .u8 255] 5)) (some ⟨S, 0, none⟩) 32 tag) := ⟨⟨own_lit w1 [255] (S + 2) (by rw [H1.out.2.2.1]; exact Nat.le_refl _) (by simp [maxLen]), (Below.refl _ _).alloc (by rw [H1.out.2.2.1]; exact Nat.le_refl _) _, by simp [H1.out.2.2.1]⟩, H1.out.2.2.2.below ((Below.refl _ _).alloc (Nat.le_refl _) _)⟩
  go_upto_region 2 with fail
  generalize w1.alloc (.cells #[.int .u8 255] 5) = w2 at H2 ⊢
  generalize w1.heap.size = g1 at H2 ⊢
  go_upto_region 3 with (first
    | (at_builtin; refine Seal.wpList_app rfl (.tmp 9) (.tmp 10) rfl (S + 2) 1 32 _ _ [255] tag _ w2 rfl rfl H2.out.1.1 H2.out.2 (by decide) (Below.refl _ _) H2.out.1.2.2 ?_; intro v3 w3 h3; have H3 : Box (Pu w1 w3 (S + 2) v3 33 ([255] ++ tag)) := ⟨H2.out.1.app h3⟩; clear h3))
  clear H2
  go_upto_region 4 with (first
    | (go_at_call 49; refine Calls.mono (rput4 p _ _ hp (by first | rfl | (rw [IntKind.wrap_u64]; omega))) ?_; rintro e w4 ⟨a4, c4, rfl, hB, hb⟩; have H4 : Box (Pu w1 w4 (S + 2) v3 33 ([255] ++ tag) ∧ Bytes w4 a4 4 (bytesOf p 4)) := ⟨H3.out.below hb, hB⟩; clear hb hB)
    | (at_builtin; refine Seal.wpList_app rfl (.tmp 12) (.tmp 15) rfl (S + 2) 33 4 _ _ ([255] ++ tag) (bytesOf p 4) _ w4 rfl rfl H4.out.1.1 H4.out.2 (by decide) (Below.refl _ _) H4.out.1.2.2 ?_; intro v5 w5 h5; have H5 : Box (Pu w1 w5 (S + 2) v5 37 ([255] ++ tag ++ bytesOf p 4)) := ⟨H4.out.1.app h5⟩; clear h5))
  clear H3 H4
  go_upto_region 5 with (first
    | (at_builtin; rw [← HSt.out]; refine wpList_appStr rfl (.tmp 17) (.tmp 18) rfl (S + 2) 37 _ ([255] ++ tag ++ bytesOf p 4) L w5 rfl rfl H5.out.1 HL.out.1 (by have := HL.out.2.1; omega) (Below.refl _ _) H5.out.2.2 ?_; intro v6 w6 h6; have H6 : Box (Pu w1 w6 (S + 2) v6 (37 + L.length) M) := ⟨HD.out ▸ H5.out.app h6⟩; clear h6))
  obtain ⟨a6, c6, rfl⟩ := own_form H6.out.1
  have HC : Box (Calls Tryd.prog 55 #[.slice a6 (37 + L.length) c6] w6 fun e w' => e = .returned (.agg (u8s X)) ∧ Below w6.heap.size w6 w') := ⟨by
    have := rof a6 (37 + L.length) c6 M w6 (own_bytes H6.out.1 HL.out.2.2) (by have := HL.out.2.1; omega)
    rwa [HX.out] at this⟩
  have H7 : Box (w6.heap[S + 1]? = some (.cells (u8s z32) 23 (0, 0)) ∧ Below w.heap.size w w6) := ⟨(H6.out.2.1.block (S + 1) (by omega)).trans H1.out.1, H1.out.2.1.trans (H6.out.2.1.mono (by have := HS.out.1; omega))⟩
  clear H5 H6
  generalize 37 + L.length = len at HC ⊢
  go_wp2_with (first
    | (go_at_call 55; refine Calls.mono HC.out ?_; rintro e w7 ⟨rfl, hb⟩; have H8 : Box (w7.heap[S + 1]? = some (.cells (u8s z32) 23 (0, 0)) ∧ Below w.heap.size w w7) := ⟨(hb.block _ (Array.getElem?_eq_some_iff.1 H7.out.1).1).trans H7.out.1, below_to H7.out.2 hb⟩; clear hb)
    | (refine wpList_store_row rfl 23 _ _ rfl (S + 1) (u8s X) rfl rfl 23 (u8s z32) H8.out.1 (by rw [HXs.out]; exact infoSum) (by rw [HXs.out, size_u8s]; exact len_z32) (all_u8s X) ?_))
  (try simp only [Exit.inBlock, Exit.then])
  refine bodyPost_ret (results_cell_row (p := 6) (ty := 23) rfl _ _ (S + 1) 23 (u8s X) (0, 0) _ rfl (setRow_heap _ _ _ _ _ _ H8.out.1) Tryd.underlying23 rfl (by rw [HXs.out]; exact infoSum)) rfl ?_
  exact ⟨by rw [HX.out], below_but H8.out.2 (but_setRow _ _ _) HS.out.2 H8.out.2.size⟩
end Go.Proofs.YtcggbnggmglphaaDoor
namespace Go.Proofs.YtcggbnggmglphaaDoor
set_option maxRecDepth 100000
set_option linter.unusedVariables false
open Go.RowKit Plain
/-- One thing appended to a row of one's own, in a statement whose order is drawn. -/
theorem wp_appR {o : Oper} {act : Act} {w : World} {K : Act → World → Prop} {Q : Exit → Act → World → Prop} (t e : TypeId) (ht : Tryd.prog.underlying t = some (.slice e)) (sz bytes : Nat) (z : Value) (hi : (Tryd.prog.info? e).map (fun i => (i.zero, i.size, i.bytes)) = some (some z, sz, bytes)) (hzs : z.cells.size = sz) (hsz : 0 < sz) (s x : Operand)
    (ho : o.op = .call { callee := .builtin .append, args := #[s, x], argTypes := #[t, t] }) (B n : Nat) (v : Value) (xs cs : List Value) (wn : World) (hs : act.eval s = v) (hx : act.eval x = .slice (some ⟨wn.heap.size, 0, none⟩) 1 1) (hw : w = wn.alloc (.cells cs.toArray e)) (hown : wn.ownsRow B e sz v n xs) (hcs : cs.length = sz) (h1 : ∀ u ∈ cs, u.oneCell' = true) (hn : n ≤ 1000000) (hby : bytes ≤ 1000) (hB : B ≤ wn.heap.size)
    (h : ∀ v' w', w'.ownsRow B e sz v' (n + 1) (xs ++ cs) → wn.grownBy w' v.ownBlock → K (act.put o.dst v') w') : Oper.wp Tryd.prog o act w K Q := by
  obtain ⟨i0, hi1, hz0, hz1, hz2⟩ := info_parts hi
  subst hw
  have hm : (n + 1) * bytes ≤ 140737488355328 := Nat.le_trans (Nat.mul_le_mul (show n + 1 ≤ 1000001 by omega) hby) (by decide)
  obtain ⟨v', w', hr, h2, h3, _⟩ := run_append_own (P := Tryd.prog) _ B t o.type e i0 z sz bytes ht hi1 hz0 hz1 hz2 hzs hsz v n xs (own_to hown ((Below.refl _ _).alloc (Nat.le_refl _) _)) ⟨wn.heap.size, 0, none⟩ 1 1 cs (by rw [hcs, Nat.one_mul]) (news_new wn cs e) h1 (by unfold maxLen; omega) hm (by simp; omega)
  unfold Oper.wp execOp
  simp only [ho, resolve, invoke, builtin, Sem.run_bind, Sem.run_pure, Result.andThen_ok, List.map_toArray, List.map_cons, List.map_nil, hs, hx, hr]
  exact h v' w' h2 (grown_alloc h3)
/-- So far. -/
structure MoK (w wr : World) (M : List Im) (k : Nat) (v : Value) : Prop where
  row : wr.ownsRow w.heap.size 93 2 v k (((M.map pl).take k).map ic).flatten
  bel : Below w.heap.size w wr
theorem MoK.step {w wr wd w' : World} {M : List Im} {k : Nat} {v v' : Value} (h : MoK w wr M k v) (hk : k < M.length) (hb : Below wr.heap.size wr wd) (ho : w'.ownsRow w.heap.size 93 2 v' (k + 1) ((((M.map pl).take k).map ic).flatten ++ ic (pl M[k]))) (hg : wd.grownBy w' v.ownBlock) : MoK w w' M (k + 1) v' := by
  have hk2 : k < (M.map pl).length := by simpa using hk
  refine ⟨?_, (below_to h.bel hb).grown hg (below_to h.bel hb).size (fun j hj => (own_blk (own_to h.row hb) j hj).1)⟩
  rw [List.take_succ_eq_append_getElem hk2]
  simp only [List.map_append, List.map_cons, List.map_nil, List.flatten_append, List.getElem_map, List.flatten_cons, List.flatten_nil, List.append_nil]
  exact ho
set_option maxRecDepth 20000 in
set_option maxHeartbeats 2000000 in
theorem modelOf_any (a : Option Addr) (cap : Nat) (M : List Im) (w : World) (h : Imgs w a M) (hl : M.length ≤ 1000) :
    Calls Tryd.prog 12 #[.slice a M.length cap] w fun e w' => ∃ v, e = .returned v ∧ MoK w w' M M.length v := by
  have HM : Box (∀ x, Below w.heap.size w x → Imgs x a M) := ⟨fun x hx => h.below hx⟩
  clear h
  go_enter Tryd.func12, Tryd.ntmps12
  go_wp2
  go_loopw [3, 4] (fun v i wr => ∃ k : Nat, k ≤ M.length ∧ i = .int .i64 (k : Int) ∧ Box (MoK w wr M k v)) (fun _ i _ => M.length - (intOf i).toNat)
  case atStart => exact ⟨0, Nat.zero_le _, rfl, ⟨⟨World.ownsRow_nil _ _ _ _, Below.refl _ _⟩⟩⟩
  case round =>
    obtain ⟨k, hk, rfl, HG⟩ := hrel
    by_cases hlt : k < M.length
    · have hlt1 : decide ((k : Int) < (M.length : Int)) = true := by simp; omega
      obtain ⟨b, o, hae, hbl, hr⟩ := (HM.out w (Below.refl _ _)).tb (by omega)
      subst hae
      have hby := (HM.out w (Below.refl _ _)).byt M[k] (List.getElem_mem hlt)
      have HML : Box (k < M.length) := ⟨hlt⟩
      have HST : Box (∀ wd w' v', Below wr.heap.size wr wd → w'.ownsRow w.heap.size 93 2 v' (k + 1) ((((M.map pl).take k).map ic).flatten ++ ic (pl M[k])) → wd.grownBy w' u3.ownBlock → MoK w w' M (k + 1) v') := ⟨fun wd w' v' h1 h2 h3 => HG.out.step hlt h1 h2 h3⟩
      obtain ⟨⟨blk, ba, bl, bc, bs⟩, hmm⟩ : ∃ m, M[k] = m := ⟨_, rfl⟩
      have hrk := hr k hlt
      rw [hmm] at hby hrk HST
      obtain ⟨s, HS⟩ : ∃ s, Box (strOfNums bs = s) := ⟨_, ⟨rfl⟩⟩
      have HST2 : Box (∀ wd w' v', Below wr.heap.size wr wd → w'.ownsRow w.heap.size 93 2 v' (k + 1) ((((M.map pl).take k).map ic).flatten ++ [.int .u64 blk, .string s]) → wd.grownBy w' u3.ownBlock → MoK w w' M (k + 1) v') := ⟨by rw [← HS.out]; exact HST.out⟩
      have HR : Box (∀ x, Below w.heap.size w x → x.cell? ⟨b, o + k * 2, none⟩ = some (.int .u64 blk) ∧ x.cell? ⟨b, o + k * 2 + 1, none⟩ = some (.slice ba bl bc) ∧ Bytes x ba bl bs) := ⟨fun x hx => ⟨(hx.cell hbl).trans (hrk 0 _ rfl), (hx.cell hbl).trans (hrk 1 _ rfl), hby.1.below hx⟩⟩
      have HOW : Box (∀ x, Below wr.heap.size wr x → x.ownsRow w.heap.size 93 2 u3 k (((M.map pl).take k).map ic).flatten ∧ w.heap.size ≤ x.heap.size) := ⟨fun x hx => ⟨own_to HG.out.row hx, Nat.le_trans HG.out.bel.size hx.size⟩⟩
      have HL2 : Box (k ≤ 1000000) := ⟨by omega⟩
      have hw4 : IntKind.i64.wrap ((k : Int) + 1) = ((k + 1 : Nat) : Int) := by rw [IntKind.wrap_i64]; omega
      clear hr hby hmm hrk HST
      go_upto_region 5 with fail
      refine begin_keep (S := fun x => Below w.heap.size w x) (by kernel_rfl) (fun wd hwd => ?_)
      have hS : Below w.heap.size w wd := by rw [hwd]; exact HG.out.bel.drew
      have hbd : Below wr.heap.size wr wd := by rw [hwd]; exact (Below.refl _ _).drew
      clear hwd
      refine take_s (i := 0) (v := ?_) rfl (by kernel_rfl) (by kernel_rfl) (by kernel_rfl) (fun _ _ _ h => h) (by rfl) ?_ hS ?_
      rotate_left
      · intro w' hLat; clear hLat; go_simp <;> with_reducible rfl
      try simp only [Act.put, List.setIfInBounds_toArray, List.set_cons_zero, List.set_cons_succ, List.getElem_toArray, List.getElem_cons_zero]
      refine take_s (i := 1) (v := ?_) rfl (by kernel_rfl) (by kernel_rfl) (by kernel_rfl) (fun _ _ _ h => h) (by rfl) ?_ hS ?_
      rotate_left
      · intro w' hLat; clear hLat; go_simp <;> with_reducible rfl
      try simp only [Act.put, List.setIfInBounds_toArray, List.set_cons_zero, List.set_cons_succ, List.getElem_toArray, List.getElem_cons_zero, List.getElem_cons_succ]
      refine take_s (i := 2) (v := ?_) rfl (by kernel_rfl) (by kernel_rfl) (by kernel_rfl) (fun _ _ _ h => h) (by rfl) ?_ hS ?_
      rotate_left
      · intro w' hLat; clear hLat; go_simp <;> with_reducible rfl
      try simp only [Act.put, List.setIfInBounds_toArray, List.set_cons_zero, List.set_cons_succ, List.getElem_toArray, List.getElem_cons_zero, List.getElem_cons_succ]
      refine take_s (i := 3) (v := .pointer (some ⟨b, o + k * 2, none⟩)) rfl (by kernel_rfl) (by kernel_rfl) (by kernel_rfl) (fun _ _ _ h => h) (by rfl) (fun w' hLat => exec_idxT 24 60 Tryd.underlying24 2 infoIm _ _ rfl b o M.length cap k rfl rfl HML.out) hS ?_
      try simp only [Act.put, List.setIfInBounds_toArray, List.set_cons_zero, List.set_cons_succ, List.getElem_toArray, List.getElem_cons_zero, List.getElem_cons_succ]
      refine take_s (i := 4) (v := ?_) rfl (by kernel_rfl) (by kernel_rfl) (by kernel_rfl) (fun _ _ _ h => h) (by rfl) ?_ hS ?_
      rotate_left
      · intro w' hLat; clear hLat; go_simp <;> with_reducible rfl
      try simp only [Act.put, List.setIfInBounds_toArray, List.set_cons_zero, List.set_cons_succ, List.getElem_toArray, List.getElem_cons_zero, List.getElem_cons_succ]
      refine take_s (i := 5) (v := .int .u64 blk) rfl (by kernel_rfl) (by kernel_rfl) (by kernel_rfl) (fun _ _ _ h => h) (by rfl) (fun w' hLat => exec_load1 37 _ _ rfl Tryd.underlying37 rfl _ rfl _ (HR.out w' hLat).1) hS ?_
      try simp only [Act.put, List.setIfInBounds_toArray, List.set_cons_zero, List.set_cons_succ, List.getElem_toArray, List.getElem_cons_zero, List.getElem_cons_succ]
      refine take_s (i := 6) (v := ?_) rfl (by kernel_rfl) (by kernel_rfl) (by kernel_rfl) (fun _ _ _ h => h) (by rfl) ?_ hS ?_
      rotate_left
      · intro w' hLat; clear hLat; go_simp <;> with_reducible rfl
      try simp only [Act.put, List.setIfInBounds_toArray, List.set_cons_zero, List.set_cons_succ, List.getElem_toArray, List.getElem_cons_zero, List.getElem_cons_succ]
      refine take_s (i := 7) (v := ?_) rfl (by kernel_rfl) (by kernel_rfl) (by kernel_rfl) (fun _ _ _ h => h) (by rfl) ?_ hS ?_
      rotate_left
      · intro w' hLat; clear hLat; go_simp <;> with_reducible rfl
      try simp only [Act.put, List.setIfInBounds_toArray, List.set_cons_zero, List.set_cons_succ, List.getElem_toArray, List.getElem_cons_zero, List.getElem_cons_succ]
      refine take_s (i := 8) (v := .pointer (some ⟨b, o + k * 2, none⟩)) rfl (by kernel_rfl) (by kernel_rfl) (by kernel_rfl) (fun _ _ _ h => h) (by rfl) (fun w' hLat => exec_idxT 24 60 Tryd.underlying24 2 infoIm _ _ rfl b o M.length cap k rfl rfl HML.out) hS ?_
      try simp only [Act.put, List.setIfInBounds_toArray, List.set_cons_zero, List.set_cons_succ, List.getElem_toArray, List.getElem_cons_zero, List.getElem_cons_succ]
      refine take_s (i := 9) (v := ?_) rfl (by kernel_rfl) (by kernel_rfl) (by kernel_rfl) (fun _ _ _ h => h) (by rfl) ?_ hS ?_
      rotate_left
      · intro w' hLat; clear hLat; go_simp <;> with_reducible rfl
      try simp only [Act.put, List.setIfInBounds_toArray, List.set_cons_zero, List.set_cons_succ, List.getElem_toArray, List.getElem_cons_zero, List.getElem_cons_succ]
      refine take_s (i := 10) (v := .slice ba bl bc) rfl (by kernel_rfl) (by kernel_rfl) (by kernel_rfl) (fun _ _ _ h => h) (by rfl) (fun w' hLat => exec_load1 58 _ _ rfl Tryd.underlying58 rfl _ rfl _ (HR.out w' hLat).2.1) hS ?_
      try simp only [Act.put, List.setIfInBounds_toArray, List.set_cons_zero, List.set_cons_succ, List.getElem_toArray, List.getElem_cons_zero, List.getElem_cons_succ]
      refine take_s (i := 11) (v := .string s) rfl (by kernel_rfl) (by kernel_rfl) (by kernel_rfl) (fun _ _ _ h => h) (by rfl) (fun w' hLat => by rw [← HS.out]; exact exec_conv (.tmp 21) rfl rfl (HR.out w' hLat).2.2) hS ?_
      try simp only [Act.put, List.setIfInBounds_toArray, List.set_cons_zero, List.set_cons_succ, List.getElem_toArray, List.getElem_cons_zero, List.getElem_cons_succ]
      refine take_s (i := 12) (v := .agg #[.int .u64 blk, .string s]) rfl (by kernel_rfl) (by kernel_rfl) (by kernel_rfl) (fun _ _ _ h => h) (by rfl) (fun w' hLat => exec_built 93 [(0, .tmp 16), (1, .tmp 22)] rfl [(0, .int .u64 blk), (1, .string s)] rfl _ (built_I _ _)) hS ?_
      try simp only [Act.put, List.setIfInBounds_toArray, List.set_cons_zero, List.set_cons_succ, List.getElem_toArray, List.getElem_cons_zero, List.getElem_cons_succ]
      refine one_keep (i := 13) (by kernel_rfl) ?_
      refine keep_step rfl (by rfl) ?_
      go_simp
      have hS2 := hS
      have hS : Below w.heap.size w (wd.alloc (.cells #[.int .u64 blk, .string s] 93)) := hS2.alloc hS2.size _
      refine ⟨hS, ?_⟩
      try simp only [Act.put, List.setIfInBounds_toArray, List.set_cons_zero, List.set_cons_succ, List.getElem_toArray, List.getElem_cons_zero, List.getElem_cons_succ]
      refine one_keep (i := 14) (by kernel_rfl) ?_
      refine keep_step rfl (by rfl) ?_
      refine wp_appR 53 93 Tryd.underlying53 2 24 _ infI rfl (by decide) (.tmp 11) (.tmp 24) rfl w.heap.size k u3 (((M.map pl).take k).map ic).flatten [.int .u64 blk, .string s] wd rfl rfl rfl (HOW.out wd hbd).1 rfl (by simp [Value.oneCell']) HL2.out (by decide) (HOW.out wd hbd).2 ?_
      intro v5 x5 hown hgr
      have H5 : Box (MoK w x5 M (k + 1) v5) := ⟨HST2.out wd x5 v5 hbd hown hgr⟩
      have hS : Below w.heap.size w x5 := H5.out.bel
      refine ⟨hS, ?_⟩
      try simp only [Act.put, List.setIfInBounds_toArray, List.set_cons_zero, List.set_cons_succ, List.getElem_toArray, List.getElem_cons_zero, List.getElem_cons_succ]
      refine take_s (i := 15) (v := ?_) rfl (by kernel_rfl) (by kernel_rfl) (by kernel_rfl) (fun _ _ _ h => h) (by rfl) ?_ hS ?_
      rotate_left
      · intro w' hLat; clear hLat; go_simp <;> with_reducible rfl
      try simp only [Act.put, List.setIfInBounds_toArray, List.set_cons_zero, List.set_cons_succ, List.getElem_toArray, List.getElem_cons_zero, List.getElem_cons_succ]
      refine wpAnyH_done (by kernel_rfl) ?_ _
      clear hS2 hS hown hgr hbd
      go_wp2
      go_roundw
      case rel => exact ⟨k + 1, HML.out, by go_num, H5⟩
      case measure => simp [intOf]; have := HML.out; omega
    · obtain rfl : k = M.length := by omega
      have hlt1 : decide ((M.length : Int) < (M.length : Int)) = false := by simp
      go_wp2
      go_ret
      exact ⟨_, rfl, HG.out⟩
end Go.Proofs.YtcggbnggmglphaaDoor
