/-
 What the reference's Link of layer 13 answers, for every tag, place and bytes. And what follows it.
-/
import Derived.Test.YthfobaeafapbnaaDoorQ01
import Derived.Lib.AppendStr
import Derived.Test.YthfobaeafapbnaaDoorQ33
import Derived.Test.YthfobaeafapbnaaDoorQ07
import Derived.Test.YthfobaeafapbnaaDoorQ19
import Derived.Test.YthfobaeafapbnaaDoorQ30
import Derived.Deep.QuietTactic
import Derived.Test.YthfobaeafapbnaaDoorQ34
set_option linter.unusedVariables false
set_option maxRecDepth 100000
namespace Go.Proofs.YthfobaeafapbnaaDoor
open Go.RowKit Plain
theorem rof (a : Option Addr) (len cap : Nat) (M : List Int) (w : World) (hb : Bytes w a len M) (hl : len <= 900000) :
  Calls Tryd.prog 69 #[.slice a len cap] w fun e w' => e = .returned (.agg (u8s (dsha M))) /\ Below w.heap.size w w' := Dig.rof_any a len cap M w hb hl
theorem strCells_nums (L : List Int) (hL : Byt L) : Lib.strCells (strOfNums L) = L.map (Value.int .u8) := by
 unfold Lib.strCells
 rw [strOfNums_data, List.map_map]
 apply List.map_congr_left
 intro z hz
 obtain ⟨i, hi, rfl⟩ := List.getElem_of_mem hz
 have := hL i
 rw [List.getD, List.getElem?_eq_getElem hi, Option.getD_some] at this
 simp
 omega
theorem wpList_appStr {ops : Array Oper} {rest : List Oper} {o : Oper} {act : Act} {w : World} {Q : Exit -> Act -> World -> Prop} (hgd : o.guard = none) (s x : Operand)
  (ho : o.op = .call { callee := .builtin .append, args := #[s, x], argTypes := #[63, 9] }) (base n : Nat) (v : Value) (A L : List Int) (w0 : World)
  (hs : act.eval s = v) (hx : act.eval x = .string (strOfNums L)) (hown : w.ownsRow base 5 1 v n (A.map (Value.int .u8))) (hL : Byt L) (hl : n + L.length <= 140737488355328) (hbel : Below base w0 w) (hbase : base <= w.heap.size)
  (h : ∀ v' w', Box (w'.ownsRow base 5 1 v' (n + L.length) ((A ++ L).map (Value.int .u8)) /\ Below base w0 w' /\ base <= w'.heap.size) -> wpList Tryd.prog ops Q rest (act.put o.dst v') w') : wpList Tryd.prog ops Q (o :: rest) act w := by
 obtain ⟨i0, hi, hz0, hz1, hz2⟩ := info_parts info5
 have hsz := strOfNums_size L
 refine Lib.wpList_append_own_string w hgd s x 63 9 ho base 5 i0 Tryd.underlying63 Tryd.underlying9 hi hz0 hz1 hz2 v n _ hs hown (strOfNums L) hx (by rw [hsz]; unfold maxLen; omega) (by rw [hsz]; exact hl) hbase ?_
 intro v' w' h1 h2 _
 have hz := h2.size
 rw [hsz, strCells_nums L hL] at h1
 exact h v' w' ⟨by rw [List.map_append]; exact h1, hbel.grown h2 hbase (own_block_le hown), by omega⟩
theorem own_lit (w : World) (A : List Int) (B : Nat) (hB : B <= w.heap.size) (hA : A.length <= maxLen) : (w.alloc (.cells (u8s A) 5)).ownsRow B 5 1 (.slice (some ⟨w.heap.size, 0, none⟩) A.length A.length) A.length (A.map (Value.int .u8)) := by
 refine ⟨by simp, .inr ⟨w.heap.size, A.length, u8s A, rfl, hB, heap_alloc_new w _, Nat.le_refl _, hA, by simp [u8s], ?_⟩⟩
 simp [u8s]
 exact List.take_of_length_le (by simp)
theorem rput4 (x x' : Int) (w : World) (hx : 0 <= x /\ x <= 4294967295) (he : x' = x) :
  Calls Tryd.prog 64 #[.int .u64 x', .int .i64 4] w fun e w' => ∃ a' cap', e = .returned (.slice a' 4 cap') /\ Bytes w' a' 4 (bytesOf x 4) /\ Below w.heap.size w w' :=
 by subst he; exact (rput_any x' 4 4 w ⟨hx.1, by omega⟩ rfl (by omega)).mono fun e w' ⟨a', cap', he, ho⟩ => ⟨a', cap', he, ho.bytes (bytesOf_bd _ 4), ho.2.2⟩
set_option maxHeartbeats 2000000 in
theorem rlink_any (tag : List Int) (p : Int) (L : List Int) (w : World) (ht : tag.length = 32) (htb : Byt tag) (hp : 0 <= p /\ p <= 4294967295) (hL : Byt L) (hl : L.length <= 800000) :
  Calls Tryd.prog 47 #[.agg (u8s tag), .int .u32 p, .string (strOfNums L)] w fun e w' => e = .returned (.agg (u8s (lnk tag p L))) /\ Below w.heap.size w w' := by
 unfold lnk
 obtain ⟨X, HX⟩ : ∃ X, Box (dsha (lk tag p L) = X) := ⟨_, ⟨rfl⟩⟩
 have HXs : Box ((u8s X).size = 32) := ⟨by rw [<- HX.out, size_u8s, length_dsha]⟩
 obtain ⟨S, hS⟩ : ∃ S, w.heap.size = S := ⟨_, rfl⟩
 have HS : Box (w.heap.size = S /\ w.heap.size <= S + 1) := ⟨hS, by omega⟩
 have HL : Box (Byt L /\ L.length <= 800000 /\ Byt (lk tag p L)) := ⟨hL, hl, byt_cons _ _ (by omega) (byt_app _ _ htb (byt_app _ _ (bytesOf_bd _ 4) hL))⟩
 obtain ⟨s, HSt⟩ : ∃ s, Box (strOfNums L = s) := ⟨_, ⟨rfl⟩⟩
 have HD : Box ([255] ++ tag ++ bytesOf p 4 ++ L = lk tag p L) := ⟨by simp [lk]⟩
 obtain ⟨AT, hAT⟩ : ∃ A, u8s tag = A := ⟨_, rfl⟩
 obtain ⟨w1, hw1⟩ : ∃ w1, (w.alloc (.cells AT 23)).alloc (.cells (u8s z32) 23) = w1 := ⟨_, rfl⟩
 have hb1 : Below w.heap.size w w1 := by rw [<- hw1]; exact ((Below.refl _ _).alloc (Nat.le_refl _) _).alloc (by simp) _
 have r0 : w1.heap[S]? = some (.cells (u8s tag) 23 (0, 0)) := by rw [<- hw1, hAT]; exact al_old (al_at hS)
 have r1 : w1.heap[S + 1]? = some (.cells (u8s z32) 23 (0, 0)) := by rw [<- hw1]; exact al_at (by simp [hS])
 have hsz1 : w1.heap.size = S + 2 := by rw [<- hw1]; simp [hS]
 have hbt : Bytes w1 (some ⟨S, 0, none⟩) 32 tag := by have := bytes_of_row htb r0; rwa [ht] at this
 have H1 : Box (w1.heap[S + 1]? = some (.cells (u8s z32) 23 (0, 0)) /\ Below w.heap.size w w1 /\ w1.heap.size = S + 2 /\ Bytes w1 (some ⟨S, 0, none⟩) 32 tag) := ⟨r1, hb1, hsz1, hbt⟩
 have hs2 : (w.alloc (.cells AT 23)).heap.size = S + 1 := by simp [hS]
 have HTG : Box (Byt tag /\ tag.length = 32) := ⟨htb, ht⟩
 rw [HSt.out, hAT]
 clear hL hl ht htb hb1 r0 r1 hsz1 hbt hAT
 generalize lk tag p L = M at HX HL HD
 go_enter Tryd.func47, Tryd.ntmps47
 go_upto_region 1 with (refine wpList_run rfl _ _ (exec_alloc 23 rfl _ zeroSum) ?_)
 (try rw [hs2])
 (try simp only [hw1])
 clear hs2 hw1 hS
 have H2 : Box (Pu w1 (w1.alloc (.cells #[.int .u8 255] 5)) (S + 2) (.slice (some ⟨w1.heap.size, 0, none⟩) 1 1) 1 [255] /\ Bytes (w1.alloc (.cells #[.int .u8 255] 5)) (some ⟨S, 0, none⟩) 32 tag) := ⟨⟨own_lit w1 [255] (S + 2) (by rw [H1.out.2.2.1]; exact Nat.le_refl _) (by simp [maxLen]), (Below.refl _ _).alloc (by rw [H1.out.2.2.1]; exact Nat.le_refl _) _, by simp [H1.out.2.2.1]⟩, H1.out.2.2.2.below ((Below.refl _ _).alloc (Nat.le_refl _) _)⟩
 go_upto_region 2 with fail
 generalize w1.alloc (.cells #[.int .u8 255] 5) = w2 at H2 ⊢
 generalize w1.heap.size = g1 at H2 ⊢
 go_upto_region 3 with (first
  | (at_builtin; refine Seal.wpList_app rfl (.tmp 9) (.tmp 10) rfl (S + 2) 1 32 _ _ [255] tag _ w2 rfl rfl H2.out.1.1 H2.out.2 (by decide) (Below.refl _ _) H2.out.1.2.2 ?_; intro v3 w3 h3; have H3 : Box (Pu w1 w3 (S + 2) v3 33 ([255] ++ tag)) := ⟨H2.out.1.app h3⟩; clear h3))
 clear H2
 go_upto_region 4 with (first
  | (go_at_call 64; refine Calls.mono (rput4 p _ _ hp (by first | rfl | (rw [IntKind.wrap_u64]; omega))) ?_; rintro e w4 ⟨a4, c4, rfl, hB, hb⟩; have H4 : Box (Pu w1 w4 (S + 2) v3 33 ([255] ++ tag) /\ Bytes w4 a4 4 (bytesOf p 4)) := ⟨H3.out.below hb, hB⟩; clear hb hB)
  | (at_builtin; refine Seal.wpList_app rfl (.tmp 12) (.tmp 15) rfl (S + 2) 33 4 _ _ ([255] ++ tag) (bytesOf p 4) _ w4 rfl rfl H4.out.1.1 H4.out.2 (by decide) (Below.refl _ _) H4.out.1.2.2 ?_; intro v5 w5 h5; have H5 : Box (Pu w1 w5 (S + 2) v5 37 ([255] ++ tag ++ bytesOf p 4)) := ⟨H4.out.1.app h5⟩; clear h5))
 clear H3 H4
 go_upto_region 5 with (first
  | (at_builtin; rw [<- HSt.out]; refine wpList_appStr rfl (.tmp 17) (.tmp 18) rfl (S + 2) 37 _ ([255] ++ tag ++ bytesOf p 4) L w5 rfl rfl H5.out.1 HL.out.1 (by have := HL.out.2.1; omega) (Below.refl _ _) H5.out.2.2 ?_; intro v6 w6 h6; have H6 : Box (Pu w1 w6 (S + 2) v6 (37 + L.length) M) := ⟨HD.out ▸ H5.out.app h6⟩; clear h6))
 obtain ⟨a6, c6, rfl⟩ := own_form H6.out.1
 have HC : Box (Calls Tryd.prog 69 #[.slice a6 (37 + L.length) c6] w6 fun e w' => e = .returned (.agg (u8s X)) /\ Below w6.heap.size w6 w') := ⟨by
  have := rof a6 (37 + L.length) c6 M w6 (own_bytes H6.out.1 HL.out.2.2) (by have := HL.out.2.1; omega)
  rwa [HX.out] at this⟩
 have H7 : Box (w6.heap[S + 1]? = some (.cells (u8s z32) 23 (0, 0)) /\ Below w.heap.size w w6) := ⟨(H6.out.2.1.block (S + 1) (by omega)).trans H1.out.1, H1.out.2.1.trans (H6.out.2.1.mono (by have := HS.out.1; omega))⟩
 clear H5 H6
 generalize 37 + L.length = len at HC ⊢
 go_wp2_with (first
  | (go_at_call 69; refine Calls.mono HC.out ?_; rintro e w7 ⟨rfl, hb⟩; have H8 : Box (w7.heap[S + 1]? = some (.cells (u8s z32) 23 (0, 0)) /\ Below w.heap.size w w7) := ⟨(hb.block _ (Array.getElem?_eq_some_iff.1 H7.out.1).1).trans H7.out.1, below_to H7.out.2 hb⟩; clear hb)
  | (refine wpList_store_row rfl 23 _ _ rfl (S + 1) (u8s X) rfl rfl 23 (u8s z32) H8.out.1 (by rw [HXs.out]; exact infoSum) (by rw [HXs.out, size_u8s]; exact len_z32) (all_u8s X) ?_))
 (try simp only [Exit.inBlock, Exit.then])
 refine bodyPost_ret (results_cell_row (p := 6) (ty := 23) rfl _ _ (S + 1) 23 (u8s X) (0, 0) _ rfl (setRow_heap _ _ _ _ _ _ H8.out.1) Tryd.underlying23 rfl (by rw [HXs.out]; exact infoSum)) rfl ?_
 exact ⟨by rw [HX.out], below_but H8.out.2 (but_setRow _ _ _) HS.out.2 H8.out.2.size⟩
theorem wp_appR {o : Oper} {act : Act} {w : World} {K : Act -> World -> Prop} {Q : Exit -> Act -> World -> Prop} (t e : TypeId) (ht : Tryd.prog.underlying t = some (.slice e)) (sz bytes : Nat) (z : Value) (hi : (Tryd.prog.info? e).map (fun i => (i.zero, i.size, i.bytes)) = some (some z, sz, bytes)) (hzs : z.cells.size = sz) (hsz : 0 < sz) (s x : Operand)
  (ho : o.op = .call { callee := .builtin .append, args := #[s, x], argTypes := #[t, t] }) (B n : Nat) (v : Value) (xs cs : List Value) (wn : World) (hs : act.eval s = v) (hx : act.eval x = .slice (some ⟨wn.heap.size, 0, none⟩) 1 1) (hw : w = wn.alloc (.cells cs.toArray e)) (hown : wn.ownsRow B e sz v n xs) (hcs : cs.length = sz) (h1 : ∀ u ∈ cs, u.oneCell' = true) (hn : n <= 1000000) (hby : bytes <= 1000) (hB : B <= wn.heap.size)
  (h : ∀ v' w', w'.ownsRow B e sz v' (n + 1) (xs ++ cs) -> wn.grownBy w' v.ownBlock -> K (act.put o.dst v') w') : Oper.wp Tryd.prog o act w K Q := by
 obtain ⟨i0, hi1, hz0, hz1, hz2⟩ := info_parts hi
 subst hw
 have hm : (n + 1) * bytes <= 140737488355328 := Nat.le_trans (Nat.mul_le_mul (show n + 1 <= 1000001 by omega) hby) (by decide)
 obtain ⟨v', w', hr, h2, h3, _⟩ := run_append_own (P := Tryd.prog) _ B t o.type e i0 z sz bytes ht hi1 hz0 hz1 hz2 hzs hsz v n xs (own_to hown ((Below.refl _ _).alloc (Nat.le_refl _) _)) ⟨wn.heap.size, 0, none⟩ 1 1 cs (by rw [hcs, Nat.one_mul]) (news_new wn cs e) h1 (by unfold maxLen; omega) hm (by simp; omega)
 unfold Oper.wp execOp
 simp only [ho, resolve, invoke, builtin, Sem.run_bind, Sem.run_pure, Result.andThen_ok, List.map_toArray, List.map_cons, List.map_nil, hs, hx, hr]
 exact h v' w' h2 (grown_alloc h3)
structure MoK (w wr : World) (M : List Im) (k : Nat) (v : Value) : Prop where
 row : wr.ownsRow w.heap.size 114 2 v k (((M.map pl).take k).map ic).flatten
 bel : Below w.heap.size w wr
theorem MoK.step {w wr wd w' : World} {M : List Im} {k : Nat} {v v' : Value} (h : MoK w wr M k v) (hk : k < M.length) (hb : Below wr.heap.size wr wd) (ho : w'.ownsRow w.heap.size 114 2 v' (k + 1) ((((M.map pl).take k).map ic).flatten ++ ic (pl M[k]))) (hg : wd.grownBy w' v.ownBlock) : MoK w w' M (k + 1) v' := by
 have hk2 : k < (M.map pl).length := by simpa using hk
 refine ⟨?_, (below_to h.bel hb).grown hg (below_to h.bel hb).size (fun j hj => (own_blk (own_to h.row hb) j hj).1)⟩
 rw [List.take_succ_eq_append_getElem hk2]
 simp only [List.map_append, List.map_cons, List.map_nil, List.flatten_append, List.getElem_map, List.flatten_cons, List.flatten_nil, List.append_nil]
 exact ho
set_option maxRecDepth 20000 in
set_option maxHeartbeats 2000000 in
theorem modelOf_any (a : Option Addr) (cap : Nat) (M : List Im) (w : World) (h : Imgs w a M) (hl : M.length <= 1000) :
  Calls Tryd.prog 24 #[.slice a M.length cap] w fun e w' => ∃ v, e = .returned v /\ MoK w w' M M.length v := by
 have HM : Box (∀ x, Below w.heap.size w x -> Imgs x a M) := ⟨fun x hx => h.below hx⟩
 clear h
 go_enter Tryd.func24, Tryd.ntmps24
 go_wp2
 go_loopw [3, 4] (fun v i wr => ∃ k : Nat, k <= M.length /\ i = .int .i64 (k : Int) /\ Box (MoK w wr M k v)) (fun _ i _ => M.length - (intOf i).toNat)
 case atStart => exact ⟨0, Nat.zero_le _, rfl, ⟨⟨World.ownsRow_nil _ _ _ _, Below.refl _ _⟩⟩⟩
 case round =>
  obtain ⟨k, hk, rfl, HG⟩ := hrel
  by_cases hlt : k < M.length
  ·have hlt1 : decide ((k : Int) < (M.length : Int)) = true := by simp; omega
   obtain ⟨b, o, hae, hbl, hr⟩ := (HM.out w (Below.refl _ _)).tb (by omega)
   subst hae
   have hby := (HM.out w (Below.refl _ _)).byt M[k] (List.getElem_mem hlt)
   have HML : Box (k < M.length) := ⟨hlt⟩
   have HST : Box (∀ wd w' v', Below wr.heap.size wr wd -> w'.ownsRow w.heap.size 114 2 v' (k + 1) ((((M.map pl).take k).map ic).flatten ++ ic (pl M[k])) -> wd.grownBy w' u3.ownBlock -> MoK w w' M (k + 1) v') := ⟨fun wd w' v' h1 h2 h3 => HG.out.step hlt h1 h2 h3⟩
   obtain ⟨⟨blk, ba, bl, bc, bs⟩, hmm⟩ : ∃ m, M[k] = m := ⟨_, rfl⟩
   have hrk := hr k hlt
   rw [hmm] at hby hrk HST
   obtain ⟨s, HS⟩ : ∃ s, Box (strOfNums bs = s) := ⟨_, ⟨rfl⟩⟩
   have HST2 : Box (∀ wd w' v', Below wr.heap.size wr wd -> w'.ownsRow w.heap.size 114 2 v' (k + 1) ((((M.map pl).take k).map ic).flatten ++ [.int .u64 blk, .string s]) -> wd.grownBy w' u3.ownBlock -> MoK w w' M (k + 1) v') := ⟨by rw [<- HS.out]; exact HST.out⟩
   have HR : Box (∀ x, Below w.heap.size w x -> x.cell? ⟨b, o + k * 2, none⟩ = some (.int .u64 blk) /\ x.cell? ⟨b, o + k * 2 + 1, none⟩ = some (.slice ba bl bc) /\ Bytes x ba bl bs) := ⟨fun x hx => ⟨(hx.cell hbl).trans (hrk 0 _ rfl), (hx.cell hbl).trans (hrk 1 _ rfl), hby.1.below hx⟩⟩
   have HOW : Box (∀ x, Below wr.heap.size wr x -> x.ownsRow w.heap.size 114 2 u3 k (((M.map pl).take k).map ic).flatten /\ w.heap.size <= x.heap.size) := ⟨fun x hx => ⟨own_to HG.out.row hx, Nat.le_trans HG.out.bel.size hx.size⟩⟩
   have HL2 : Box (k <= 1000000) := ⟨by omega⟩
   have hw4 : IntKind.i64.wrap ((k : Int) + 1) = ((k + 1 : Nat) : Int) := by rw [IntKind.wrap_i64]; omega
   clear hr hby hmm hrk HST
   go_upto_region 5 with fail
   refine begin_keep (S := fun x => Below w.heap.size w x) (by kernel_rfl) (fun wd hwd => ?_)
   have hS : Below w.heap.size w wd := by rw [hwd]; exact HG.out.bel.drew
   have hbd : Below wr.heap.size wr wd := by rw [hwd]; exact (Below.refl _ _).drew
   clear hwd
   refine take_x (i := 0) (v := ?_) rfl ?_ hS ?_
   rotate_left
   ·rintro w' -; go_simp <;> with_reducible rfl
   try simp only [Act.put, pC, pD, pE, pF, pG]
   refine take_x (i := 1) (v := ?_) rfl ?_ hS ?_
   rotate_left
   ·rintro w' -; go_simp <;> with_reducible rfl
   try simp only [Act.put, pC, pD, pE, pF, pG, pH]
   refine take_x (i := 2) (v := ?_) rfl ?_ hS ?_
   rotate_left
   ·rintro w' -; go_simp <;> with_reducible rfl
   try simp only [Act.put, pC, pD, pE, pF, pG, pH]
   refine take_x (i := 3) (v := .pointer (some ⟨b, o + k * 2, none⟩)) rfl (fun w' hLat => exec_idxT 50 65 Tryd.underlying50 2 infoIm _ _ rfl b o M.length cap k rfl rfl HML.out) hS ?_
   try simp only [Act.put, pC, pD, pE, pF, pG, pH]
   refine take_x (i := 4) (v := ?_) rfl ?_ hS ?_
   rotate_left
   ·rintro w' -; go_simp <;> with_reducible rfl
   try simp only [Act.put, pC, pD, pE, pF, pG, pH]
   refine take_x (i := 5) (v := .int .u64 blk) rfl (fun w' hLat => exec_load1 24 _ _ rfl Tryd.underlying24 rfl _ rfl _ (HR.out w' hLat).1) hS ?_
   try simp only [Act.put, pC, pD, pE, pF, pG, pH]
   refine take_x (i := 6) (v := ?_) rfl ?_ hS ?_
   rotate_left
   ·rintro w' -; go_simp <;> with_reducible rfl
   try simp only [Act.put, pC, pD, pE, pF, pG, pH]
   refine take_x (i := 7) (v := ?_) rfl ?_ hS ?_
   rotate_left
   ·rintro w' -; go_simp <;> with_reducible rfl
   try simp only [Act.put, pC, pD, pE, pF, pG, pH]
   refine take_x (i := 8) (v := .pointer (some ⟨b, o + k * 2, none⟩)) rfl (fun w' hLat => exec_idxT 50 65 Tryd.underlying50 2 infoIm _ _ rfl b o M.length cap k rfl rfl HML.out) hS ?_
   try simp only [Act.put, pC, pD, pE, pF, pG, pH]
   refine take_x (i := 9) (v := ?_) rfl ?_ hS ?_
   rotate_left
   ·rintro w' -; go_simp <;> with_reducible rfl
   try simp only [Act.put, pC, pD, pE, pF, pG, pH]
   refine take_x (i := 10) (v := .slice ba bl bc) rfl (fun w' hLat => exec_load1 63 _ _ rfl Tryd.underlying63 rfl _ rfl _ (HR.out w' hLat).2.1) hS ?_
   try simp only [Act.put, pC, pD, pE, pF, pG, pH]
   refine take_x (i := 11) (v := .string s) rfl (fun w' hLat => by rw [<- HS.out]; exact exec_conv (.tmp 21) rfl rfl (HR.out w' hLat).2.2) hS ?_
   try simp only [Act.put, pC, pD, pE, pF, pG, pH]
   refine take_x (i := 12) (v := .agg #[.int .u64 blk, .string s]) rfl (fun w' hLat => exec_built 114 [(0, .tmp 16), (1, .tmp 22)] rfl [(0, .int .u64 blk), (1, .string s)] rfl _ (built_I _ _)) hS ?_
   try simp only [Act.put, pC, pD, pE, pF, pG, pH]
   refine one_keep (i := 13) (by kernel_rfl) ?_
   refine keep_step rfl (by rfl) ?_
   go_simp
   have hS2 := hS
   have hS : Below w.heap.size w (wd.alloc (.cells #[.int .u64 blk, .string s] 114)) := hS2.alloc hS2.size _
   refine ⟨hS, ?_⟩
   try simp only [Act.put, pC, pD, pE, pF, pG, pH]
   refine one_keep (i := 14) (by kernel_rfl) ?_
   refine keep_step rfl (by rfl) ?_
   refine wp_appR 83 114 Tryd.underlying83 2 24 _ infI rfl (by decide) (.tmp 11) (.tmp 24) rfl w.heap.size k u3 (((M.map pl).take k).map ic).flatten [.int .u64 blk, .string s] wd rfl rfl rfl (HOW.out wd hbd).1 rfl (by simp [Value.oneCell']) HL2.out (by decide) (HOW.out wd hbd).2 ?_
   intro v5 x5 hown hgr
   have H5 : Box (MoK w x5 M (k + 1) v5) := ⟨HST2.out wd x5 v5 hbd hown hgr⟩
   have hS : Below w.heap.size w x5 := H5.out.bel
   refine ⟨hS, ?_⟩
   try simp only [Act.put, pC, pD, pE, pF, pG, pH]
   refine take_x (i := 15) (v := ?_) rfl ?_ hS ?_
   rotate_left
   ·rintro w' -; go_simp <;> with_reducible rfl
   try simp only [Act.put, pC, pD, pE, pF, pG, pH]
   refine wpAnyH_done (by kernel_rfl) ?_ _
   clear hS2 hS hown hgr hbd
   go_wp2
   go_roundw
   case rel => exact ⟨k + 1, HML.out, by go_num, H5⟩
   case measure => simp [intOf]; have := HML.out; omega
  ·obtain rfl : k = M.length := by omega
   have hlt1 : decide ((M.length : Int) < (M.length : Int)) = false := by simp
   go_wp2
   go_ret
   exact ⟨_, rfl, HG.out⟩
structure Rz (w y : World) (S : Nat) (V J : List Value) : Prop where
 b0 : y.heap[S]? = some (.cells V.toArray 36 (0, 0))
 b1 : y.heap[S + 1]? = some (.cells J.toArray 44 (0, 0))
 b2 : ∃ Z : List Value, y.heap[S + 2]? = some (.cells Z.toArray 36 (0, 0)) /\ Z.length = 6
 b3 : ∃ Z : List Value, y.heap[S + 3]? = some (.cells Z.toArray 44 (0, 0)) /\ Z.length = 70
 b4 : ∃ Z : List Value, y.heap[S + 4]? = some (.cells Z.toArray 42 (0, 0)) /\ Z.length = 34
 bl : Below w.heap.size w y
 sz : w.heap.size = S
theorem Rz.lt {w y : World} {S : Nat} {V J : List Value} (h : Rz w y S V J) : S + 5 <= y.heap.size := by
 obtain ⟨Z, h4, _⟩ := h.b4
 have := (Array.getElem?_eq_some_iff.1 h4).1
 omega
theorem Rz.but {w y z : World} {S B : Nat} {V J : List Value} (h : Rz w y S V J) (hb : But B y z) (hB : S <= B) (hB2 : S + 5 <= B) : Rz w z S V J := by
 have hl := h.lt
 have e : ∀ k, k < S + 5 -> z.heap[k]? = y.heap[k]? := fun k hk => hb.block k (by omega) (by omega)
 obtain ⟨Z2, h2, l2⟩ := h.b2
 obtain ⟨Z3, h3, l3⟩ := h.b3
 obtain ⟨Z4, h4, l4⟩ := h.b4
 exact ⟨(e S (by omega)).trans h.b0, (e _ (by omega)).trans h.b1, ⟨Z2, (e _ (by omega)).trans h2, l2⟩, ⟨Z3, (e _ (by omega)).trans h3, l3⟩, ⟨Z4, (e _ (by omega)).trans h4, l4⟩, h.bl.trans (hb.below (by rw [h.sz]; exact hB) h.bl.size), h.sz⟩
theorem Rz.below {w y z : World} {S : Nat} {V J : List Value} (h : Rz w y S V J) (hb : Below y.heap.size y z) : Rz w z S V J := h.but (B := y.heap.size) (But.of_below hb) (by have := h.lt; omega) h.lt
theorem Rz.set1 {w y z : World} {S : Nat} {V J J' : List Value} (h : Rz w y S V J) (hb : But (S + 1) y z) (h1 : z.heap[S + 1]? = some (.cells J'.toArray 44 (0, 0))) : Rz w z S V J' := by
 have hl := h.lt
 have e : ∀ k, k < S + 5 -> k ≠ S + 1 -> z.heap[k]? = y.heap[k]? := fun k hk hn => hb.block k (by omega) hn
 obtain ⟨Z2, h2, l2⟩ := h.b2
 obtain ⟨Z3, h3, l3⟩ := h.b3
 obtain ⟨Z4, h4, l4⟩ := h.b4
 exact ⟨(e S (by omega) (by omega)).trans h.b0, h1, ⟨Z2, (e _ (by omega) (by omega)).trans h2, l2⟩, ⟨Z3, (e _ (by omega) (by omega)).trans h3, l3⟩, ⟨Z4, (e _ (by omega) (by omega)).trans h4, l4⟩, h.bl.trans (hb.below (by rw [h.sz]; omega) h.bl.size), h.sz⟩
theorem Rz.set0 {w y z : World} {S : Nat} {V V' J : List Value} (h : Rz w y S V J) (hb : But S y z) (h1 : z.heap[S]? = some (.cells V'.toArray 36 (0, 0))) : Rz w z S V' J := by
 have hl := h.lt
 have e : ∀ k, k < S + 5 -> k ≠ S -> z.heap[k]? = y.heap[k]? := fun k hk hn => hb.block k (by omega) hn
 obtain ⟨Z2, h2, l2⟩ := h.b2
 obtain ⟨Z3, h3, l3⟩ := h.b3
 obtain ⟨Z4, h4, l4⟩ := h.b4
 exact ⟨h1, (e _ (by omega) (by omega)).trans h.b1, ⟨Z2, (e _ (by omega) (by omega)).trans h2, l2⟩, ⟨Z3, (e _ (by omega) (by omega)).trans h3, l3⟩, ⟨Z4, (e _ (by omega) (by omega)).trans h4, l4⟩, h.bl.trans (hb.below (by rw [h.sz]; omega) h.bl.size), h.sz⟩
theorem range_row {y : World} {g : Nat} {cs : List Value} {t : TypeId} {fr : Nat × Nat} (h : y.heap[g]? = some (.cells cs.toArray t fr)) : y.rangeAt g 0 cs := fun j v hv => by
 rw [cell_of_row _ _ _ _ _ _ h]
 simpa using hv
theorem cell_at {y : World} {g k : Nat} {cs : List Value} {t : TypeId} {fr : Nat × Nat} {v : Value} (h : y.heap[g]? = some (.cells cs.toArray t fr)) (hv : cs[k]? = some v) : y.cell? ⟨g, k, none⟩ = some v := by
 rw [cell_of_row _ _ _ _ _ _ h]
 simpa using hv
theorem froz_at {y : World} {g k : Nat} {cs : List Value} {t : TypeId} (h : y.heap[g]? = some (.cells cs.toArray t (0, 0))) : y.frozen? ⟨g, k, none⟩ = false := frozen_of_row y g _ _ _ h
theorem rq_at {K : List Int} {f n x y : Int} {s : Jst} (hK : K.length = 32) (hs : OkS s) : (rq K f n s x y)[32]? = some (.int .i64 f) /\ (rq K f n s x y)[33]? = some (.int .u64 n) /\ (rq K f n s x y)[35]? = some (.int .u64 (s.count : Int)) /\ (rq K f n s x y)[68]? = some (.int .u64 x) /\ (rq K f n s x y)[69]? = some (.int .u64 y) := by
 have hl : (scs s).length = 34 := len_scs hs
 refine ⟨?_, ?_, ?_, ?_, ?_⟩
 ·simp [rq, hK]
 ·rw [rq, List.getElem?_append_right (by simp [hK])]
  simp [hK]
 ·rw [rq, List.getElem?_append_right (by simp [hK])]
  simp [hK, scs]
 ·simp [rq, hK, hl]
 ·simp [rq, hK, hl]
theorem rq_range {w : World} {g : Nat} {t : TypeId} {K : List Int} {f n x y : Int} {s : Jst} (h : w.heap[g]? = some (.cells (rq K f n s x y).toArray t (0, 0))) (hK : K.length = 32) (hs : OkS s) : w.rangeAt g 0 (K.map (Value.int .u8)) /\ w.rangeAt g 34 (scs s) := by
 have hl : (scs s).length = 34 := len_scs hs
 refine ⟨fun j v hv => cell_at h ?_, fun j v hv => cell_at h ?_⟩
 ·have hj := (List.getElem?_eq_some_iff.1 hv).1
  rw [rq, Nat.zero_add, List.getElem?_append_left hj]
  exact hv
 ·have hj := (List.getElem?_eq_some_iff.1 hv).1
  have e : (rq K f n s x y)[34 + j]? = (scs s ++ [.int .u64 x, .int .u64 y])[j]? := by
   rw [rq, List.getElem?_append_right (by simp [hK]; omega), List.length_map, hK, show 34 + j - 32 = j + 2 by omega]
   rfl
  rw [e, List.getElem?_append_left hj]
  exact hv
structure Ri (w y : World) (S X : Nat) (j : Jt) (d : Disk.Dk) (P : List (Int × List Int)) (k i : Nat) (rs : Value) (V : List Value) (r : Disk.Rd) : Prop where
 rz : Rz w y S V (rq j.key (j.first : Int) (j.size : Int) j.st (apL j (d, j.nx, 0, j.st) ((ofP P).take i)).2.1 j.lim)
 bx : y.heap[X]? = some (.cells (scs (apL j (d, j.nx, 0, j.st) ((ofP P).take i)).2.2.2).toArray 42 (0, 0))
 hx : S + 5 <= X
 rv : Disk.Rv y (.agg V.toArray) r
 dj : Disk.J (k + i) (apL j (d, j.nx, 0, j.st) ((ofP P).take i)).1 r
 rr : y.ownsRow w.heap.size 116 3 rs P.length ((ofP P).map rrc).flatten
end Go.Proofs.YthfobaeafapbnaaDoor
