/-
  What Link of package journal answers, for every tag, place and bytes. And what follows it.
-/
import Derived.Test.YtcggbnggmglphaaDoorQ26
import Derived.Test.YtcggbnggmglphaaDoorQ25
namespace Go.Proofs.YtcggbnggmglphaaDoor
set_option maxRecDepth 100000
set_option linter.unusedVariables false
open Go.RowKit Plain
attribute [local go_sem] Oper.semAt_some
/-- Of any world. -/
def Any (w : World) : Prop := True
theorem put4 (x x' : Int) (w : World) (hx : 0 ≤ x ∧ x ≤ 4294967295) (he : x' = x) :
    Calls Tryd.prog 40 #[.int .u64 x', .int .i64 4] w fun e w' => ∃ g, e = .returned (.slice (some ⟨g, 0, none⟩) 4 4) ∧ Bytes w' (some ⟨g, 0, none⟩) 4 (bytesOf x 4) ∧ Below w.heap.size w w' :=
  by subst he; exact (put_ok x' 4 w hx.1 (by omega) (by omega) (by omega)).mono fun e w' ⟨g, he, ho⟩ => ⟨g, he, ho.bytes (bytesOf_bd _ 4), ho.2.2⟩
/-- Four slices of bytes, laid down in a block of their own, digested as one. -/
theorem pieces4 (g : Nat) (a1 a2 a3 a4 : Option Addr) (l1 l2 l3 l4 c1 c2 c3 c4 : Nat) (A B C E : List Int) (X : List Int) (w : World) (hT : Dig.Tabs w) (hg : w.heap[g]? = some (.cells #[.slice a1 l1 c1, .slice a2 l2 c2, .slice a3 l3 c3, .slice a4 l4 c4] 58 (0, 0)))
    (hA : Bytes w a1 l1 A) (hB : Bytes w a2 l2 B) (hC : Bytes w a3 l3 C) (hE : Bytes w a4 l4 E) (k1 : l1 ≤ c1) (k2 : l2 ≤ c2) (k3 : l3 ≤ c3) (k4 : l4 ≤ c4) (m1 : c1 ≤ 9223372036854775807) (m2 : c2 ≤ 9223372036854775807) (m3 : c3 ≤ 9223372036854775807) (m4 : c4 ≤ 9223372036854775807) (hX : A ++ (B ++ (C ++ E)) = X) (hl : X.length ≤ 900000) :
    Calls Tryd.prog 39 #[.slice (some ⟨g, 0, none⟩) 4 4] w fun e w' => e = .returned (.agg (u8s (dsha X))) ∧ Below w.heap.size w w' := by
  refine Dig.pieces_list [⟨a1, l1, c1, A⟩, ⟨a2, l2, c2, B⟩, ⟨a3, l3, c3, C⟩, ⟨a4, l4, c4, E⟩] g 4 X 58 (0, 0) w hT hg ?_ rfl (by omega) (by simp [Dig.joinTo, ← hX]) hl
  intro p hp
  simp only [List.mem_cons, List.not_mem_nil, or_false] at hp
  rcases hp with rfl | rfl | rfl | rfl
  · exact ⟨hA, k1, m1⟩
  · exact ⟨hB, k2, m2⟩
  · exact ⟨hC, k3, m3⟩
  · exact ⟨hE, k4, m4⟩
set_option maxHeartbeats 4000000 in
theorem link_any (tag : List Int) (p : Int) (a : Option Addr) (len cap : Nat) (L : List Int) (w : World) (hT : Dig.Tabs w) (ht : tag.length = 32) (htb : Byt tag) (hp : 0 ≤ p ∧ p ≤ 4294967295) (hb : Bytes w a len L) (hl : len ≤ 800000) (hc : len ≤ cap) (hm : cap ≤ 9223372036854775807) :
    Calls Tryd.prog 20 #[.agg (u8s tag), .int .u32 p, .slice a len cap] w fun e w' => e = .returned (.agg (u8s (lnk tag p L))) ∧ Below w.heap.size w w' := by
  unfold lnk
  obtain ⟨X, HX⟩ : ∃ X, Box (dsha (lk tag p L) = X) := ⟨_, ⟨rfl⟩⟩
  have HXs : Box ((u8s X).size = 32) := ⟨by rw [← HX.out, size_u8s, length_dsha]⟩
  obtain ⟨S, hS⟩ : ∃ S, w.heap.size = S := ⟨_, rfl⟩
  have HQ : Box (Byt [255]) := ⟨byt_cons _ _ (by omega) byt_nil⟩
  have HD : Box (lk tag p L = [255] ++ (tag ++ (bytesOf p 4 ++ L)) ∧ (lk tag p L).length ≤ 900000) := ⟨rfl, by rw [len_lk, hb.1, ht]; omega⟩
  obtain ⟨AT, hAT⟩ : ∃ A, u8s tag = A := ⟨_, rfl⟩
  obtain ⟨w1, hw1⟩ : ∃ w1, (w.alloc (.cells AT 23)).alloc (.cells (u8s z32) 23) = w1 := ⟨_, rfl⟩
  have hb1 : Below w.heap.size w w1 := by rw [← hw1]; exact ((Below.refl _ _).alloc (Nat.le_refl _) _).alloc (by simp) _
  have r0 : w1.heap[S]? = some (.cells (u8s tag) 23 (0, 0)) := by rw [← hw1, hAT]; exact al_old (al_at hS)
  have r1 : w1.heap[S + 1]? = some (.cells (u8s z32) 23 (0, 0)) := by rw [← hw1]; exact al_at (by simp [hS])
  have hbt : Bytes w1 (some ⟨S, 0, none⟩) 32 tag := by have := bytes_of_row htb r0; rwa [ht] at this
  have H1 : Box (∀ x, Below w1.heap.size w1 x → x.heap[S + 1]? = some (.cells (u8s z32) 23 (0, 0)) ∧ Bytes x (some ⟨S, 0, none⟩) 32 tag ∧ Dig.Tabs x ∧ Bytes x a len L ∧ Below w.heap.size w x) := ⟨fun x hx => ⟨(hx.block _ (Array.getElem?_eq_some_iff.1 r1).1).trans r1, hbt.below hx, hT.below (below_to hb1 hx), hb.below (below_to hb1 hx), below_to hb1 hx⟩⟩
  have H0 : Box (len ≤ cap ∧ cap ≤ 9223372036854775807) := ⟨hc, hm⟩
  have HS : Box (w.heap.size = S ∧ w.heap.size ≤ S + 1) := ⟨hS, by omega⟩
  have HA : Box (u8s tag = AT) := ⟨hAT⟩
  have hs2 : (w.alloc (.cells AT 23)).heap.size = S + 1 := by simp [hS]
  rw [hAT]
  clear hT ht htb hb hc hm r0 r1 hbt hb1 hAT
  generalize lk tag p L = M at HX HD
  have HPC : Box (∀ (z : World) (q g : Nat), Below w1.heap.size w1 z → Bytes z (some ⟨q, 0, none⟩) 1 [255] → Bytes z (some ⟨g, 0, none⟩) 4 (bytesOf p 4) → Calls Tryd.prog 39 #[.slice (some ⟨z.heap.size, 0, none⟩) 4 4] (z.alloc (.cells #[.slice (some ⟨q, 0, none⟩) 1 1, .slice (some ⟨S, 0, none⟩) 32 32, .slice (some ⟨g, 0, none⟩) 4 4, .slice a len cap] 58)) fun e w' => e = .returned (.agg (u8s X)) ∧ Below z.heap.size z w') := ⟨fun z q g hz h1 h2 => by
    have ba := (Below.refl z.heap.size z).alloc (Nat.le_refl _) (.cells #[.slice (some ⟨q, 0, none⟩) 1 1, .slice (some ⟨S, 0, none⟩) 32 32, .slice (some ⟨g, 0, none⟩) 4 4, .slice a len cap] 58)
    obtain ⟨_, t2, t3, t4, _⟩ := H1.out _ (below_to hz ba)
    refine (pieces4 z.heap.size _ _ _ _ 1 32 4 len 1 32 4 cap [255] tag (bytesOf p 4) L M _ t3 (al_at rfl) (h1.below ba) t2 (h2.below ba) t4 (by omega) (by omega) (by omega) H0.out.1 (by omega) (by omega) (by omega) H0.out.2 HD.out.1.symm HD.out.2).mono fun e w' ⟨he, hb⟩ => ⟨by rw [he, HX.out], below_to ba hb⟩⟩
  go_enter Tryd.func20, Tryd.ntmps20
  go_upto_region 1 with (refine wpList_run rfl _ _ (exec_alloc 23 rfl _ zeroSum) ?_)
  (try rw [hs2])
  simp only [hw1]
  clear hs2 hw1 hS
  refine begin_keep (S := Any) (by kernel_rfl) (fun wd hwd => ?_)
  have hbd : Below w1.heap.size w1 wd := by rw [hwd]; exact (Below.refl _ _).drew
  have hS : Any wd := trivial
  clear hwd
  refine take_s (i := 1) (v := ?_) rfl (by kernel_rfl) (by kernel_rfl) (by kernel_rfl) (fun _ _ _ h => h) (by rfl) ?_ hS ?_
  rotate_left
  · intro w' hLat; clear hLat; go_simp <;> with_reducible rfl
  try simp only [Act.put, List.setIfInBounds_toArray, List.set_cons_zero, List.set_cons_succ, List.getElem_toArray, List.getElem_cons_zero, List.getElem_cons_succ]
  refine take_s (i := 2) (v := ?_) rfl (by kernel_rfl) (by kernel_rfl) (by kernel_rfl) (fun _ _ _ h => h) (by rfl) ?_ hS ?_
  rotate_left
  · intro w' hLat; clear hLat; go_simp <;> with_reducible rfl
  try simp only [Act.put, List.setIfInBounds_toArray, List.set_cons_zero, List.set_cons_succ, List.getElem_toArray, List.getElem_cons_zero, List.getElem_cons_succ]
  refine take_s (i := 3) (v := ?_) rfl (by kernel_rfl) (by kernel_rfl) (by kernel_rfl) (fun _ _ _ h => h) (by rfl) ?_ hS ?_
  rotate_left
  · intro w' hLat; clear hLat; go_simp <;> with_reducible rfl
  try simp only [Act.put, List.setIfInBounds_toArray, List.set_cons_zero, List.set_cons_succ, List.getElem_toArray, List.getElem_cons_zero, List.getElem_cons_succ]
  refine take_s (i := 5) (v := ?_) rfl (by kernel_rfl) (by kernel_rfl) (by kernel_rfl) (fun _ _ _ h => h) (by rfl) ?_ hS ?_
  rotate_left
  · intro w' hLat; clear hLat; go_simp <;> with_reducible rfl
  try simp only [Act.put, List.setIfInBounds_toArray, List.set_cons_zero, List.set_cons_succ, List.getElem_toArray, List.getElem_cons_zero, List.getElem_cons_succ]
  refine two_keep (i := 0) (j := 4) (by kernel_rfl) ?_ ?_
  · refine keep_step rfl (by rfl) ?_
    go_simp
    obtain ⟨q, hq⟩ : ∃ q, wd.heap.size = q := ⟨_, rfl⟩
    obtain ⟨v1, hv1⟩ : ∃ v1, wd.alloc (.cells #[.int .u8 255] 5) = v1 := ⟨_, rfl⟩
    have hbq : Below wd.heap.size wd v1 := by rw [← hv1]; exact (Below.refl _ _).alloc (Nat.le_refl _) _
    have hBq : Bytes v1 (some ⟨q, 0, none⟩) 1 [255] := by rw [← hv1]; exact bytes_of_row (X := [255]) (t := 5) (fr := (0, 0)) HQ.out (al_at hq)
    simp only [hq, hv1]
    refine ⟨trivial, ?_⟩
    clear hv1 hq
    try simp only [Act.put, List.setIfInBounds_toArray, List.set_cons_zero, List.set_cons_succ, List.getElem_toArray, List.getElem_cons_zero, List.getElem_cons_succ]
    refine one_keep (i := 4) (by kernel_rfl) ?_
    refine keep_step rfl (by rfl) ?_
    go_simp
    refine Calls.mono (put4 p _ v1 hp (by first | rfl | (rw [IntKind.wrap_u64]; omega))) ?_
    rintro e v2 ⟨g, rfl, hBg, hbg⟩
    refine ⟨trivial, ?_⟩
    try simp only [Act.put, List.setIfInBounds_toArray, List.set_cons_zero, List.set_cons_succ, List.getElem_toArray, List.getElem_cons_zero, List.getElem_cons_succ]
    have HB : Box (Below w1.heap.size w1 v2 ∧ Bytes v2 (some ⟨q, 0, none⟩) 1 [255] ∧ Bytes v2 (some ⟨g, 0, none⟩) 4 (bytesOf p 4)) := ⟨below_to (below_to hbd hbq) hbg, hBq.below hbg, hBg⟩
    clear hbq hbg hBq hBg hbd
    refine one_keep (i := 6) (by kernel_rfl) ?_
    refine keep_step rfl (by rfl) ?_
    go_simp
    refine ⟨trivial, ?_⟩
    try simp only [Act.put, List.setIfInBounds_toArray, List.set_cons_zero, List.set_cons_succ, List.getElem_toArray, List.getElem_cons_zero, List.getElem_cons_succ]
    refine one_keep (i := 7) (by kernel_rfl) ?_
    refine keep_step rfl (by rfl) ?_
    go_simp
    refine Calls.mono (HPC.out v2 q g HB.out.1 HB.out.2.1 HB.out.2.2) ?_
    rintro e v4 ⟨rfl, hb7⟩
    have H4 := H1.out v4 (below_to HB.out.1 hb7)
    refine ⟨trivial, ?_⟩
    try simp only [Act.put, List.setIfInBounds_toArray, List.set_cons_zero, List.set_cons_succ, List.getElem_toArray, List.getElem_cons_zero, List.getElem_cons_succ]
    refine one_keep (i := 8) (by kernel_rfl) ?_
    refine keep_step rfl (by rfl) ?_
    refine wp_store_mid 23 (.tmp 6) (.tmp 14) rfl (S + 1) 0 (u8s X) rfl rfl (there_row H4.1 (by rw [HXs.out, size_u8s]; exact Nat.le_of_eq len_z32.symm)) (by rw [HXs.out]; exact infoSum) (all_u8s X) ?_
    obtain ⟨y, hy⟩ : ∃ y, v4.setCells (S + 1) 0 (u8s X).toList = y := ⟨_, rfl⟩
    rw [hy]
    have hry : y.heap[S + 1]? = some (.cells (u8s X) 23 (0, 0)) := by rw [← hy, Disk.heap_setCells (S + 1) _ _ 0 _ _ H4.1 (by rw [Array.length_toList, HXs.out, size_u8s]; exact Nat.le_of_eq len_z32.symm), Disk.splice_all _ _ (by rw [Array.length_toList, Array.length_toList, HXs.out, size_u8s]; exact len_z32)]
    have hby : Below w.heap.size w y := below_but H4.2.2.2.2 (by rw [← hy]; exact but_setCells _ _ _ _ _ (But.refl _ _)) HS.out.2 H4.2.2.2.2.size
    refine ⟨trivial, ?_⟩
    refine wpAnyH_done (by kernel_rfl) ?_ _
    clear H4 hy
    (try simp only [Exit.then])
    go_wp2
    refine bodyPost_ret (results_cell_row (p := 6) (ty := 23) rfl _ _ (S + 1) 23 (u8s X) (0, 0) _ rfl hry Tryd.underlying23 rfl (by rw [HXs.out]; exact infoSum)) rfl ?_
    exact ⟨by rw [HX.out], hby⟩
  · refine keep_step rfl (by rfl) ?_
    go_simp
    refine Calls.mono (put4 p _ wd hp (by first | rfl | (rw [IntKind.wrap_u64]; omega))) ?_
    rintro e v2 ⟨g, rfl, hBg, hbg⟩
    refine ⟨trivial, ?_⟩
    try simp only [Act.put, List.setIfInBounds_toArray, List.set_cons_zero, List.set_cons_succ, List.getElem_toArray, List.getElem_cons_zero, List.getElem_cons_succ]
    refine one_keep (i := 0) (by kernel_rfl) ?_
    refine keep_step rfl (by rfl) ?_
    go_simp
    obtain ⟨q, hq⟩ : ∃ q, v2.heap.size = q := ⟨_, rfl⟩
    obtain ⟨v1, hv1⟩ : ∃ v1, v2.alloc (.cells #[.int .u8 255] 5) = v1 := ⟨_, rfl⟩
    have hbq : Below v2.heap.size v2 v1 := by rw [← hv1]; exact (Below.refl _ _).alloc (Nat.le_refl _) _
    have hBq : Bytes v1 (some ⟨q, 0, none⟩) 1 [255] := by rw [← hv1]; exact bytes_of_row (X := [255]) (t := 5) (fr := (0, 0)) HQ.out (al_at hq)
    simp only [hq, hv1]
    refine ⟨trivial, ?_⟩
    clear hv1 hq
    try simp only [Act.put, List.setIfInBounds_toArray, List.set_cons_zero, List.set_cons_succ, List.getElem_toArray, List.getElem_cons_zero, List.getElem_cons_succ]
    have HB : Box (Below w1.heap.size w1 v1 ∧ Bytes v1 (some ⟨q, 0, none⟩) 1 [255] ∧ Bytes v1 (some ⟨g, 0, none⟩) 4 (bytesOf p 4)) := ⟨below_to (below_to hbd hbg) hbq, hBq, hBg.below hbq⟩
    clear hbq hbg hBq hBg hbd
    refine one_keep (i := 6) (by kernel_rfl) ?_
    refine keep_step rfl (by rfl) ?_
    go_simp
    refine ⟨trivial, ?_⟩
    try simp only [Act.put, List.setIfInBounds_toArray, List.set_cons_zero, List.set_cons_succ, List.getElem_toArray, List.getElem_cons_zero, List.getElem_cons_succ]
    refine one_keep (i := 7) (by kernel_rfl) ?_
    refine keep_step rfl (by rfl) ?_
    go_simp
    refine Calls.mono (HPC.out v1 q g HB.out.1 HB.out.2.1 HB.out.2.2) ?_
    rintro e v4 ⟨rfl, hb7⟩
    have H4 := H1.out v4 (below_to HB.out.1 hb7)
    refine ⟨trivial, ?_⟩
    try simp only [Act.put, List.setIfInBounds_toArray, List.set_cons_zero, List.set_cons_succ, List.getElem_toArray, List.getElem_cons_zero, List.getElem_cons_succ]
    refine one_keep (i := 8) (by kernel_rfl) ?_
    refine keep_step rfl (by rfl) ?_
    refine wp_store_mid 23 (.tmp 6) (.tmp 14) rfl (S + 1) 0 (u8s X) rfl rfl (there_row H4.1 (by rw [HXs.out, size_u8s]; exact Nat.le_of_eq len_z32.symm)) (by rw [HXs.out]; exact infoSum) (all_u8s X) ?_
    obtain ⟨y, hy⟩ : ∃ y, v4.setCells (S + 1) 0 (u8s X).toList = y := ⟨_, rfl⟩
    rw [hy]
    have hry : y.heap[S + 1]? = some (.cells (u8s X) 23 (0, 0)) := by rw [← hy, Disk.heap_setCells (S + 1) _ _ 0 _ _ H4.1 (by rw [Array.length_toList, HXs.out, size_u8s]; exact Nat.le_of_eq len_z32.symm), Disk.splice_all _ _ (by rw [Array.length_toList, Array.length_toList, HXs.out, size_u8s]; exact len_z32)]
    have hby : Below w.heap.size w y := below_but H4.2.2.2.2 (by rw [← hy]; exact but_setCells _ _ _ _ _ (But.refl _ _)) HS.out.2 H4.2.2.2.2.size
    refine ⟨trivial, ?_⟩
    refine wpAnyH_done (by kernel_rfl) ?_ _
    clear H4 hy
    (try simp only [Exit.then])
    go_wp2
    refine bodyPost_ret (results_cell_row (p := 6) (ty := 23) rfl _ _ (S + 1) 23 (u8s X) (0, 0) _ rfl hry Tryd.underlying23 rfl (by rw [HXs.out]; exact infoSum)) rfl ?_
    exact ⟨by rw [HX.out], hby⟩
end Go.Proofs.YtcggbnggmglphaaDoor
namespace Go.Proofs.YtcggbnggmglphaaDoor
set_option maxRecDepth 100000
set_option linter.unusedVariables false
open Go.RowKit Plain
theorem get_k (a : Option Addr) (cap : Nat) (L : List Int) (p : Nat) (p' : Int) (w : World) (hb : Bytes w a 176 L) (hp : p + 8 ≤ 176) (he : p' = (p : Int)) :
    Calls Tryd.prog 89 #[.slice a 176 cap, .int .i64 p', .int .i64 8] w fun e w' => e = .returned (.tuple #[.int .u64 (num L p 8), .int .i64 0]) ∧ w = w' := by
  subst he
  exact get_ok a 176 cap L p 8 w hb (by decide) (by omega) (by omega) hp
theorem results_row2 {fn : Func} {ty : TypeId} {t u : Tmp} (h : fn.results = #[.cell t ty, .tmp u]) (d : TypeDesc) (hu : Tryd.prog.underlying ty = some d) (hd : d.isRow = true) (tmps : Array Value) (w : World) (b : Nat) (cs : Array Value) (hi : (Tryd.prog.info? ty).map (·.size) = some cs.size) (ht : tmps.getD t undef = .pointer (some ⟨b, 0, none⟩)) (hg : w.heap[b]? = some (.cells cs ty (0, 0))) :
    (results fn tmps).run Tryd.prog w = .ok (.tuple #[.agg cs, tmps.getD u undef]) w := by
  have hl := run_loadVar_mid (P := Tryd.prog) w b 0 ty cs.toList d (range_arr hg _ (fun j v hv => by simpa using hv)) hu hd (by simpa using hi)
  rw [results_cell_tmp h, ht]
  simp [asAddr, hl]
theorem but_setRow (w : World) (g : Nat) (cs : Array Value) : But g w (w.setRow g cs) := ⟨rfl, rfl, rfl, by simp [World.setRow], fun k _ hn => setRow_other w g k cs hn⟩
def zrc : Rc := ⟨⟨0, none, 0, 0, []⟩, false⟩
theorem all_rcc (r : Rc) : (rcc r).toArray.all (·.oneCell') = true := by simp [rcc, Value.oneCell']
end Go.Proofs.YtcggbnggmglphaaDoor
