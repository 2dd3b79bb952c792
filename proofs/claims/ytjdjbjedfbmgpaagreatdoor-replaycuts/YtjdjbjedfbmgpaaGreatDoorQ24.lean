/-
 What Link of package journal answers, for every tag, place and bytes. And what follows it.
-/
import Derived.Test.YtjdjbjedfbmgpaaGreatDoorQ01
import Derived.Test.YtjdjbjedfbmgpaaGreatDoorQ23
set_option linter.unusedVariables false
set_option maxRecDepth 100000
set_option maxRecDepth 100000
namespace Go.Proofs.YtjdjbjedfbmgpaaGreatDoor
open Go.RowKit Plain
attribute [local go_sem] Oper.semAt_some
def Any (w : World) : Prop := True
theorem put4 (x x' : Int) (w : World) (hx : 0 <= x /\ x <= 4294967295) (he : x' = x) :
  Calls Tryz.prog 63 #[.int .u64 x', .int .i64 4] w fun e w' => ∃ g, e = .returned (.slice (some ⟨g, 0, none⟩) 4 4) /\ Bytes w' (some ⟨g, 0, none⟩) 4 (bytesOf x 4) /\ Below w.heap.size w w' :=
 by subst he; exact (put_ok x' 4 w hx.1 (by omega) (by omega) (by omega)).mono fun e w' ⟨g, he, ho⟩ => ⟨g, he, ho.bytes (bytesOf_bd _ 4), ho.2.2⟩
theorem pieces4 (g : Nat) (a1 a2 a3 a4 : Option Addr) (l1 l2 l3 l4 c1 c2 c3 c4 : Nat) (A B C E : List Int) (X : List Int) (w : World) (hT : Dig.Tabs w) (hg : w.heap[g]? = some (.cells #[.slice a1 l1 c1, .slice a2 l2 c2, .slice a3 l3 c3, .slice a4 l4 c4] 57 (0, 0)))
  (hA : Bytes w a1 l1 A) (hB : Bytes w a2 l2 B) (hC : Bytes w a3 l3 C) (hE : Bytes w a4 l4 E) (k1 : l1 <= c1) (k2 : l2 <= c2) (k3 : l3 <= c3) (k4 : l4 <= c4) (m1 : c1 <= 9223372036854775807) (m2 : c2 <= 9223372036854775807) (m3 : c3 <= 9223372036854775807) (m4 : c4 <= 9223372036854775807) (hX : A ++ (B ++ (C ++ E)) = X) (hl : X.length <= 900000) :
  Calls Tryz.prog 62 #[.slice (some ⟨g, 0, none⟩) 4 4] w fun e w' => e = .returned (.agg (u8s (dsha X))) /\ Below w.heap.size w w' := by
 refine Dig.pieces_list [⟨a1, l1, c1, A⟩, ⟨a2, l2, c2, B⟩, ⟨a3, l3, c3, C⟩, ⟨a4, l4, c4, E⟩] g 4 X 57 (0, 0) w hT hg ?_ rfl (by omega) (by simp [Dig.joinTo, <- hX]) hl
 intro p hp
 simp only [List.mem_cons, List.not_mem_nil, or_false] at hp
 rcases hp with rfl | rfl | rfl | rfl
 ·exact ⟨hA, k1, m1⟩
 ·exact ⟨hB, k2, m2⟩
 ·exact ⟨hC, k3, m3⟩
 ·exact ⟨hE, k4, m4⟩
set_option maxHeartbeats 4000000 in
theorem link_any (tag : List Int) (p : Int) (a : Option Addr) (len cap : Nat) (L : List Int) (w : World) (hT : Dig.Tabs w) (ht : tag.length = 32) (htb : Byt tag) (hp : 0 <= p /\ p <= 4294967295) (hb : Bytes w a len L) (hl : len <= 800000) (hc : len <= cap) (hm : cap <= 9223372036854775807) :
  Calls Tryz.prog 29 #[.agg (u8s tag), .int .u32 p, .slice a len cap] w fun e w' => e = .returned (.agg (u8s (lnk tag p L))) /\ Below w.heap.size w w' := by
 unfold lnk
 obtain ⟨X, HX⟩ : ∃ X, Box (dsha (lk tag p L) = X) := ⟨_, ⟨rfl⟩⟩
 have HXs : Box ((u8s X).size = 32) := ⟨by rw [<- HX.out, size_u8s, length_dsha]⟩
 obtain ⟨S, hS⟩ : ∃ S, w.heap.size = S := ⟨_, rfl⟩
 have HQ : Box (Byt [255]) := ⟨byt_cons _ _ (by omega) byt_nil⟩
 have HD : Box (lk tag p L = [255] ++ (tag ++ (bytesOf p 4 ++ L)) /\ (lk tag p L).length <= 900000) := ⟨rfl, by rw [len_lk, hb.1, ht]; omega⟩
 obtain ⟨AT, hAT⟩ : ∃ A, u8s tag = A := ⟨_, rfl⟩
 obtain ⟨w1, hw1⟩ : ∃ w1, (w.alloc (.cells AT 23)).alloc (.cells (u8s z32) 23) = w1 := ⟨_, rfl⟩
 have hb1 : Below w.heap.size w w1 := by rw [<- hw1]; exact ((Below.refl _ _).alloc (Nat.le_refl _) _).alloc (by simp) _
 have r0 : w1.heap[S]? = some (.cells (u8s tag) 23 (0, 0)) := by rw [<- hw1, hAT]; exact al_old (al_at hS)
 have r1 : w1.heap[S + 1]? = some (.cells (u8s z32) 23 (0, 0)) := by rw [<- hw1]; exact al_at (by simp [hS])
 have hbt : Bytes w1 (some ⟨S, 0, none⟩) 32 tag := by have := bytes_of_row htb r0; rwa [ht] at this
 have H1 : Box (∀ x, Below w1.heap.size w1 x -> x.heap[S + 1]? = some (.cells (u8s z32) 23 (0, 0)) /\ Bytes x (some ⟨S, 0, none⟩) 32 tag /\ Dig.Tabs x /\ Bytes x a len L /\ Below w.heap.size w x) := ⟨fun x hx => ⟨(hx.block _ (Array.getElem?_eq_some_iff.1 r1).1).trans r1, hbt.below hx, hT.below (below_to hb1 hx), hb.below (below_to hb1 hx), below_to hb1 hx⟩⟩
 have H0 : Box (len <= cap /\ cap <= 9223372036854775807) := ⟨hc, hm⟩
 have HS : Box (w.heap.size = S /\ w.heap.size <= S + 1) := ⟨hS, by omega⟩
 have HA : Box (u8s tag = AT) := ⟨hAT⟩
 have hs2 : (w.alloc (.cells AT 23)).heap.size = S + 1 := by simp [hS]
 rw [hAT]
 clear hT ht htb hb hc hm r0 r1 hbt hb1 hAT
 generalize lk tag p L = M at HX HD
 have HPC : Box (∀ (z : World) (q g : Nat), Below w1.heap.size w1 z -> Bytes z (some ⟨q, 0, none⟩) 1 [255] -> Bytes z (some ⟨g, 0, none⟩) 4 (bytesOf p 4) -> Calls Tryz.prog 62 #[.slice (some ⟨z.heap.size, 0, none⟩) 4 4] (z.alloc (.cells #[.slice (some ⟨q, 0, none⟩) 1 1, .slice (some ⟨S, 0, none⟩) 32 32, .slice (some ⟨g, 0, none⟩) 4 4, .slice a len cap] 57)) fun e w' => e = .returned (.agg (u8s X)) /\ Below z.heap.size z w') := ⟨fun z q g hz h1 h2 => by
  have ba := (Below.refl z.heap.size z).alloc (Nat.le_refl _) (.cells #[.slice (some ⟨q, 0, none⟩) 1 1, .slice (some ⟨S, 0, none⟩) 32 32, .slice (some ⟨g, 0, none⟩) 4 4, .slice a len cap] 57)
  obtain ⟨_, t2, t3, t4, _⟩ := H1.out _ (below_to hz ba)
  refine (pieces4 z.heap.size _ _ _ _ 1 32 4 len 1 32 4 cap [255] tag (bytesOf p 4) L M _ t3 (al_at rfl) (h1.below ba) t2 (h2.below ba) t4 (by omega) (by omega) (by omega) H0.out.1 (by omega) (by omega) (by omega) H0.out.2 HD.out.1.symm HD.out.2).mono fun e w' ⟨he, hb⟩ => ⟨by rw [he, HX.out], below_to ba hb⟩⟩
 go_enter Tryz.func29, Tryz.ntmps29
 go_upto_region 1 with (refine wpList_run rfl _ _ (exec_alloc 23 rfl _ zeroSum) ?_)
 (try rw [hs2])
 simp only [hw1]
 clear hs2 hw1 hS
 refine begin_keep (S := Any) (by kernel_rfl) (fun wd hwd => ?_)
 have hbd : Below w1.heap.size w1 wd := by rw [hwd]; exact (Below.refl _ _).drew
 have hS : Any wd := trivial
 clear hwd
 refine take_x (i := 1) (v := ?_) rfl ?_ hS ?_
 rotate_left
 ·rintro w' -; go_simp <;> with_reducible rfl
 try simp only [Act.put, pC, pD, pE, pF, pG, pH]
 refine take_x (i := 2) (v := ?_) rfl ?_ hS ?_
 rotate_left
 ·rintro w' -; go_simp <;> with_reducible rfl
 try simp only [Act.put, pC, pD, pE, pF, pG, pH]
 refine take_x (i := 3) (v := ?_) rfl ?_ hS ?_
 rotate_left
 ·rintro w' -; go_simp <;> with_reducible rfl
 try simp only [Act.put, pC, pD, pE, pF, pG, pH]
 refine take_x (i := 5) (v := ?_) rfl ?_ hS ?_
 rotate_left
 ·rintro w' -; go_simp <;> with_reducible rfl
 try simp only [Act.put, pC, pD, pE, pF, pG, pH]
 refine two_keep (i := 0) (j := 4) (by kernel_rfl) ?_ ?_
 ·refine keep_step rfl (by rfl) ?_
  go_simp
  obtain ⟨q, hq⟩ : ∃ q, wd.heap.size = q := ⟨_, rfl⟩
  obtain ⟨v1, hv1⟩ : ∃ v1, wd.alloc (.cells #[.int .u8 255] 5) = v1 := ⟨_, rfl⟩
  have hbq : Below wd.heap.size wd v1 := by rw [<- hv1]; exact (Below.refl _ _).alloc (Nat.le_refl _) _
  have hBq : Bytes v1 (some ⟨q, 0, none⟩) 1 [255] := by rw [<- hv1]; exact bytes_of_row (X := [255]) (t := 5) (fr := (0, 0)) HQ.out (al_at hq)
  simp only [hq, hv1]
  refine ⟨trivial, ?_⟩
  clear hv1 hq
  try simp only [Act.put, pC, pD, pE, pF, pG, pH]
  refine one_keep (i := 4) (by kernel_rfl) ?_
  refine keep_step rfl (by rfl) ?_
  go_simp
  refine Calls.mono (put4 p _ v1 hp (by first | rfl | (rw [IntKind.wrap_u64]; omega))) ?_
  rintro e v2 ⟨g, rfl, hBg, hbg⟩
  refine ⟨trivial, ?_⟩
  try simp only [Act.put, pC, pD, pE, pF, pG, pH]
  have HB : Box (Below w1.heap.size w1 v2 /\ Bytes v2 (some ⟨q, 0, none⟩) 1 [255] /\ Bytes v2 (some ⟨g, 0, none⟩) 4 (bytesOf p 4)) := ⟨below_to (below_to hbd hbq) hbg, hBq.below hbg, hBg⟩
  clear hbq hbg hBq hBg hbd
  refine one_keep (i := 6) (by kernel_rfl) ?_
  refine keep_step rfl (by rfl) ?_
  go_simp
  refine ⟨trivial, ?_⟩
  try simp only [Act.put, pC, pD, pE, pF, pG, pH]
  refine one_keep (i := 7) (by kernel_rfl) ?_
  refine keep_step rfl (by rfl) ?_
  go_simp
  refine Calls.mono (HPC.out v2 q g HB.out.1 HB.out.2.1 HB.out.2.2) ?_
  rintro e v4 ⟨rfl, hb7⟩
  have H4 := H1.out v4 (below_to HB.out.1 hb7)
  refine ⟨trivial, ?_⟩
  try simp only [Act.put, pC, pD, pE, pF, pG, pH]
  refine one_keep (i := 8) (by kernel_rfl) ?_
  refine keep_step rfl (by rfl) ?_
  refine wp_store_mid 23 (.tmp 6) (.tmp 14) rfl (S + 1) 0 (u8s X) rfl rfl (there_row H4.1 (by rw [HXs.out, size_u8s]; exact Nat.le_of_eq len_z32.symm)) (by rw [HXs.out]; exact infoSum) (all_u8s X) ?_
  obtain ⟨y, hy⟩ : ∃ y, v4.setCells (S + 1) 0 (u8s X).toList = y := ⟨_, rfl⟩
  rw [hy]
  have hry : y.heap[S + 1]? = some (.cells (u8s X) 23 (0, 0)) := by rw [<- hy, Disk.heap_setCells (S + 1) _ _ 0 _ _ H4.1 (by rw [Array.length_toList, HXs.out, size_u8s]; exact Nat.le_of_eq len_z32.symm), Disk.splice_all _ _ (by rw [Array.length_toList, Array.length_toList, HXs.out, size_u8s]; exact len_z32)]
  have hby : Below w.heap.size w y := below_but H4.2.2.2.2 (by rw [<- hy]; exact but_setCells _ _ _ _ _ (But.refl _ _)) HS.out.2 H4.2.2.2.2.size
  refine ⟨trivial, ?_⟩
  refine wpAnyH_done (by kernel_rfl) ?_ _
  clear H4 hy
  (try simp only [Exit.then])
  go_wp2
  refine bodyPost_ret (results_cell_row (p := 6) (ty := 23) rfl _ _ (S + 1) 23 (u8s X) (0, 0) _ rfl hry Tryz.underlying23 rfl (by rw [HXs.out]; exact infoSum)) rfl ?_
  exact ⟨by rw [HX.out], hby⟩
 ·refine keep_step rfl (by rfl) ?_
  go_simp
  refine Calls.mono (put4 p _ wd hp (by first | rfl | (rw [IntKind.wrap_u64]; omega))) ?_
  rintro e v2 ⟨g, rfl, hBg, hbg⟩
  refine ⟨trivial, ?_⟩
  try simp only [Act.put, pC, pD, pE, pF, pG, pH]
  refine one_keep (i := 0) (by kernel_rfl) ?_
  refine keep_step rfl (by rfl) ?_
  go_simp
  obtain ⟨q, hq⟩ : ∃ q, v2.heap.size = q := ⟨_, rfl⟩
  obtain ⟨v1, hv1⟩ : ∃ v1, v2.alloc (.cells #[.int .u8 255] 5) = v1 := ⟨_, rfl⟩
  have hbq : Below v2.heap.size v2 v1 := by rw [<- hv1]; exact (Below.refl _ _).alloc (Nat.le_refl _) _
  have hBq : Bytes v1 (some ⟨q, 0, none⟩) 1 [255] := by rw [<- hv1]; exact bytes_of_row (X := [255]) (t := 5) (fr := (0, 0)) HQ.out (al_at hq)
  simp only [hq, hv1]
  refine ⟨trivial, ?_⟩
  clear hv1 hq
  try simp only [Act.put, pC, pD, pE, pF, pG, pH]
  have HB : Box (Below w1.heap.size w1 v1 /\ Bytes v1 (some ⟨q, 0, none⟩) 1 [255] /\ Bytes v1 (some ⟨g, 0, none⟩) 4 (bytesOf p 4)) := ⟨below_to (below_to hbd hbg) hbq, hBq, hBg.below hbq⟩
  clear hbq hbg hBq hBg hbd
  refine one_keep (i := 6) (by kernel_rfl) ?_
  refine keep_step rfl (by rfl) ?_
  go_simp
  refine ⟨trivial, ?_⟩
  try simp only [Act.put, pC, pD, pE, pF, pG, pH]
  refine one_keep (i := 7) (by kernel_rfl) ?_
  refine keep_step rfl (by rfl) ?_
  go_simp
  refine Calls.mono (HPC.out v1 q g HB.out.1 HB.out.2.1 HB.out.2.2) ?_
  rintro e v4 ⟨rfl, hb7⟩
  have H4 := H1.out v4 (below_to HB.out.1 hb7)
  refine ⟨trivial, ?_⟩
  try simp only [Act.put, pC, pD, pE, pF, pG, pH]
  refine one_keep (i := 8) (by kernel_rfl) ?_
  refine keep_step rfl (by rfl) ?_
  refine wp_store_mid 23 (.tmp 6) (.tmp 14) rfl (S + 1) 0 (u8s X) rfl rfl (there_row H4.1 (by rw [HXs.out, size_u8s]; exact Nat.le_of_eq len_z32.symm)) (by rw [HXs.out]; exact infoSum) (all_u8s X) ?_
  obtain ⟨y, hy⟩ : ∃ y, v4.setCells (S + 1) 0 (u8s X).toList = y := ⟨_, rfl⟩
  rw [hy]
  have hry : y.heap[S + 1]? = some (.cells (u8s X) 23 (0, 0)) := by rw [<- hy, Disk.heap_setCells (S + 1) _ _ 0 _ _ H4.1 (by rw [Array.length_toList, HXs.out, size_u8s]; exact Nat.le_of_eq len_z32.symm), Disk.splice_all _ _ (by rw [Array.length_toList, Array.length_toList, HXs.out, size_u8s]; exact len_z32)]
  have hby : Below w.heap.size w y := below_but H4.2.2.2.2 (by rw [<- hy]; exact but_setCells _ _ _ _ _ (But.refl _ _)) HS.out.2 H4.2.2.2.2.size
  refine ⟨trivial, ?_⟩
  refine wpAnyH_done (by kernel_rfl) ?_ _
  clear H4 hy
  (try simp only [Exit.then])
  go_wp2
  refine bodyPost_ret (results_cell_row (p := 6) (ty := 23) rfl _ _ (S + 1) 23 (u8s X) (0, 0) _ rfl hry Tryz.underlying23 rfl (by rw [HXs.out]; exact infoSum)) rfl ?_
  exact ⟨by rw [HX.out], hby⟩
end Go.Proofs.YtjdjbjedfbmgpaaGreatDoor
namespace Go.Proofs.YtjdjbjedfbmgpaaGreatDoor
open Go.RowKit Plain
theorem get_k (a : Option Addr) (cap : Nat) (L : List Int) (p : Nat) (p' : Int) (w : World) (hb : Bytes w a 176 L) (hp : p + 8 <= 176) (he : p' = (p : Int)) :
  Calls Tryz.prog 121 #[.slice a 176 cap, .int .i64 p', .int .i64 8] w fun e w' => e = .returned (.tuple #[.int .u64 (num L p 8), .int .i64 0]) /\ w = w' := by
 subst he
 exact get_ok a 176 cap L p 8 w hb (by decide) (by omega) (by omega) hp
theorem results_row2 {fn : Func} {ty : TypeId} {t u : Tmp} (h : fn.results = #[.cell t ty, .tmp u]) (d : TypeDesc) (hu : Tryz.prog.underlying ty = some d) (hd : d.isRow = true) (tmps : Array Value) (w : World) (b : Nat) (cs : Array Value) (hi : (Tryz.prog.info? ty).map (·.size) = some cs.size) (ht : tmps.getD t undef = .pointer (some ⟨b, 0, none⟩)) (hg : w.heap[b]? = some (.cells cs ty (0, 0))) :
  (results fn tmps).run Tryz.prog w = .ok (.tuple #[.agg cs, tmps.getD u undef]) w := by
 have hl := run_loadVar_mid (P := Tryz.prog) w b 0 ty cs.toList d (range_arr hg _ (fun j v hv => by simpa using hv)) hu hd (by simpa using hi)
 rw [results_cell_tmp h, ht]
 simp [asAddr, hl]
theorem but_setRow (w : World) (g : Nat) (cs : Array Value) : But g w (w.setRow g cs) := ⟨rfl, rfl, rfl, by simp [World.setRow], fun k _ hn => setRow_other w g k cs hn⟩
def zrc : Rc := ⟨⟨0, none, 0, 0, []⟩, false⟩
theorem built_R0 : Tryz.prog.built 95 [] = some (rcc zrc).toArray := by kernel_rfl
theorem built_Rc (b : Int) (a : Option Addr) (l c : Nat) (x : Bool) : Tryz.prog.built 95 [(0, .agg #[.int .u64 b, .slice a l c]), (1, .bool x)] = some #[.int .u64 b, .slice a l c, .bool x] := by kernel_rfl
theorem all_rcc (r : Rc) : (rcc r).toArray.all (·.oneCell') = true := by simp [rcc, Value.oneCell']
def fitR (L : List Int) : Prop := L.length = 176 /\ (num L 0 8 = 1 ∨ num L 0 8 = 257)
set_option maxHeartbeats 1000000 in
theorem rcget_no (a : Option Addr) (len cap : Nat) (L : List Int) (w : World) (h : Bytes w a len L) (hl : len <= maxLen) (hc : len <= cap) (hn : ¬ fitR L) :
  Calls Tryz.prog 102 #[.slice a len cap] w fun e w' => e = .returned (.tuple #[.agg (rcc zrc).toArray, .int .i64 11]) /\ Below w.heap.size w w' := by
 unfold maxLen at hl
 obtain ⟨S, hS⟩ : ∃ S, w.heap.size = S := ⟨_, rfl⟩
 obtain ⟨w1, hw1⟩ : ∃ w1, w.alloc (.cells #[.int .u64 0, .slice none 0 0, .bool false] 95) = w1 := ⟨_, rfl⟩
 have hb1 : Below w.heap.size w w1 := by rw [<- hw1]; exact (Below.refl _ _).alloc (Nat.le_refl _) _
 have r1 : w1.heap[S]? = some (.cells (rcc zrc).toArray 95 (0, 0)) := by rw [<- hw1]; exact al_at hS
 have HR : Box _ := ⟨r1⟩
 have HB : Box (Below w.heap.size w w1 /\ w.heap.size = S) := ⟨hb1, hS⟩
 by_cases h176 : len = 176
 ·subst h176
  have hx : ((num L 0 8 : Int) != 1) = true /\ ((num L 0 8 : Int) != 257) = true := by
   constructor
   ·simp; exact fun e => hn ⟨h.1, .inl e⟩
   ·simp; exact fun e => hn ⟨h.1, .inr e⟩
  obtain ⟨z, hz⟩ : ∃ z, num L 0 8 = z := ⟨_, rfl⟩
  have HG : Box (Calls Tryz.prog 121 #[.slice a 176 cap, .int .i64 0, .int .i64 8] w1 fun e w' => e = .returned (.tuple #[.int .u64 z, .int .i64 0]) /\ w1 = w') := ⟨hz ▸ get_k a cap L 0 0 w1 (h.below hb1) (by omega) rfl⟩
  rw [hz] at hx
  obtain ⟨hx1, hx2⟩ := hx
  clear hb1 r1 h hn hz
  go_enter Tryz.func102, Tryz.ntmps102
  go_upto_region 1 with (refine atAlloc _ ?_; refine wpList_run rfl _ _ (exec_alloc 95 rfl _ zeroRc) ?_)
  (try simp only [hw1, hS])
  go_wp2_with (first
   | (go_at_call 121; refine HG.out.mono ?_; rintro e x1 ⟨rfl, rfl⟩)
   | (refine atBuild _ ?_; refine wpList_run rfl _ _ (exec_built 95 [] rfl [] rfl _ built_R0) ?_)
   | (refine atStore _ ?_; refine wpList_store_row rfl 95 _ _ rfl S (rcc zrc).toArray rfl rfl 95 (rcc zrc).toArray HR.out infoRc rfl (all_rcc zrc) ?_))
  refine bodyPost_ret (results_row2 (t := 2) (u := 3) rfl _ Tryz.underlying95 rfl _ _ S (rcc zrc).toArray infoRc rfl (setRow_heap _ _ _ _ _ _ HR.out)) rfl ?_
  exact ⟨rfl, below_setRow HB.out.1 (Nat.le_of_eq HB.out.2) _⟩
 ·have hx1 : ((len : Int) != 176) = true := by simp; omega
  clear hb1 r1 h hn h176
  go_enter Tryz.func102, Tryz.ntmps102
  go_upto_region 1 with (refine atAlloc _ ?_; refine wpList_run rfl _ _ (exec_alloc 95 rfl _ zeroRc) ?_)
  (try simp only [hw1, hS])
  go_wp2_with (first
   | (refine atBuild _ ?_; refine wpList_run rfl _ _ (exec_built 95 [] rfl [] rfl _ built_R0) ?_)
   | (refine atStore _ ?_; refine wpList_store_row rfl 95 _ _ rfl S (rcc zrc).toArray rfl rfl 95 (rcc zrc).toArray HR.out infoRc rfl (all_rcc zrc) ?_))
  refine bodyPost_ret (results_row2 (t := 2) (u := 3) rfl _ Tryz.underlying95 rfl _ _ S (rcc zrc).toArray infoRc rfl (setRow_heap _ _ _ _ _ _ HR.out)) rfl ?_
  exact ⟨rfl, below_setRow HB.out.1 (Nat.le_of_eq HB.out.2) _⟩
def getP (L : List Int) : (Int × List Int) × Bool := ((num L 8 8, L.drop 16), decide (num L 0 8 = 257))
set_option maxHeartbeats 1000000 in
theorem rcget_ok (a : Option Addr) (cap : Nat) (L : List Int) (w : World) (h : Bytes w a 176 L) (hc : 176 <= cap) (hn : fitR L) :
  Calls Tryz.prog 102 #[.slice a 176 cap] w fun e w' => ∃ r, e = .returned (.tuple #[.agg (rcc r).toArray, .int .i64 0]) /\ rpl r = getP L /\ r.m.bl = 160 /\ OIm w' w.heap.size r.m /\ Below w.heap.size w w' := by
 obtain ⟨S, hS⟩ : ∃ S, w.heap.size = S := ⟨_, rfl⟩
 obtain ⟨w1, hw1⟩ : ∃ w1, w.alloc (.cells #[.int .u64 0, .slice none 0 0, .bool false] 95) = w1 := ⟨_, rfl⟩
 have hb1 : Below w.heap.size w w1 := by rw [<- hw1]; exact (Below.refl _ _).alloc (Nat.le_refl _) _
 have hs1 : w1.heap.size = S + 1 := by rw [<- hw1]; simp [hS]
 have r1 : w1.heap[S]? = some (.cells (rcc zrc).toArray 95 (0, 0)) := by rw [<- hw1]; exact al_at hS
 have HR : Box (∀ x, Below w1.heap.size w1 x -> x.heap[S]? = some (.cells (rcc zrc).toArray 95 (0, 0))) := ⟨fun x hx => (hx.block S (by omega)).trans r1⟩
 have HB : Box (Below w.heap.size w w1 /\ w.heap.size = S /\ w1.heap.size = S + 1) := ⟨hb1, hS, hs1⟩
 obtain ⟨z, hz⟩ : ∃ z, num L 0 8 = z := ⟨_, rfl⟩
 obtain ⟨q, hq⟩ : ∃ q, num L 8 8 = q := ⟨_, rfl⟩
 have hqb : N64 q := by
  have := num_bd L 8 h.2.1 8
  rw [hq] at this
  exact ⟨this.1, by omega⟩
 have HG : Box (Calls Tryz.prog 121 #[.slice a 176 cap, .int .i64 0, .int .i64 8] w1 fun e w' => e = .returned (.tuple #[.int .u64 z, .int .i64 0]) /\ w1 = w') := ⟨hz ▸ get_k _ cap L 0 0 w1 (h.below hb1) (by omega) rfl⟩
 have HG2 : Box (Calls Tryz.prog 121 #[.slice a 176 cap, .int .i64 8, .int .i64 8] w1 fun e w' => e = .returned (.tuple #[.int .u64 q, .int .i64 0]) /\ w1 = w') := ⟨hq ▸ get_k _ cap L 8 8 w1 (h.below hb1) (by omega) rfl⟩
 obtain ⟨bb, oo, hae, hlt, hcl⟩ := h.2.2 (by omega)
 subst hae
 have hcn : ¬ cap = 16 := by omega
 have hby : Bytes w1 (some ⟨bb, oo + 16, none⟩) 160 (L.drop 16) := ⟨by rw [List.length_drop, h.1], byt_drop L 16 h.2.1, fun _ => ⟨bb, oo + 16, rfl, Nat.lt_of_lt_of_le hlt hb1.size, fun i hi => by
  have e := hcl (16 + i) (by omega)
  rw [hb1.cell hlt, show oo + 16 + i = oo + (16 + i) by omega, e]
  simp [List.getD, List.getElem?_drop]⟩⟩
 have HO : Box (Calls Tryz.prog 69 #[.agg #[.int .u64 q, .slice (some ⟨bb, oo + 16, none⟩) 160 (cap - 16)]] w1 fun e w' => ∃ m', e = .returned (.agg (imc m').toArray) /\ Owned w1 w' ⟨q, some ⟨bb, oo + 16, none⟩, 160, cap - 16, L.drop 16⟩ m') := ⟨own_any ⟨q, some ⟨bb, oo + 16, none⟩, 160, cap - 16, L.drop 16⟩ w1 hby hqb (by show (160 : Nat) < 1000000; decide)⟩
 have HP : Box (getP L = ((q, L.drop 16), decide (z = 257))) := ⟨by rw [getP, hq, hz]⟩
 obtain ⟨b, hzb⟩ : ∃ b, (z == 257) = b := ⟨_, rfl⟩
 have HZB : Box (decide (z = 257) = b) := ⟨by rw [<- hzb]; rfl⟩
 have hfit : z = 1 ∨ z = 257 := hz ▸ hn.2
 have key : ∀ (hx1 : (z != 1) = true /\ (z != 257) = false ∨ (z != 1) = false), Calls Tryz.prog 102 #[.slice (some ⟨bb, oo, none⟩) 176 cap] w fun e w' => ∃ r, e = .returned (.tuple #[.agg (rcc r).toArray, .int .i64 0]) /\ rpl r = getP L /\ r.m.bl = 160 /\ OIm w' w.heap.size r.m /\ Below w.heap.size w w' := by
  intro hx1
  clear hb1 r1 h hn hz hq hby hfit hqb hs1 hlt hcl
  have hx2 : (z != 1 && z != 257) = false := by rcases hx1 with ⟨h1, h2⟩ | h1 <;> simp [*]
  rcases hx1 with ⟨hx1, hx3⟩ | hx1
  all_goals
   clear hx2
   go_enter Tryz.func102, Tryz.ntmps102
   go_upto_region 1 with (refine atAlloc _ ?_; refine wpList_run rfl _ _ (exec_alloc 95 rfl _ zeroRc) ?_)
   (try simp only [hw1, hS])
   go_upto_region 6 with (go_at_call 121; refine HG.out.mono ?_; rintro e x1 ⟨rfl, rfl⟩)
   go_upto_region 7 with (go_at_call 121; refine HG2.out.mono ?_; rintro e x1 ⟨rfl, rfl⟩)
   go_wp2_with (first
    | (refine atBuild 79 ?_; refine wpList_run rfl _ _ (exec_built 79 [(0, .tmp 29), (1, .tmp 31)] rfl [(0, .int .u64 q), (1, .slice (some ⟨bb, oo + 16, none⟩) 160 (cap - 16))] rfl _ (built_Im _ _ _ _)) ?_)
    | (refine atBuild 95 ?_; refine wpList_run rfl _ _ (exec_built 95 [(0, .tmp 33), (1, .tmp 35)] rfl [(0, .agg #[.int .u64 mb, .slice ma ml mc]), (1, .bool b)] rfl _ (built_Rc _ _ _ _ _)) ?_)
    | (refine atStore _ ?_; refine wpList_store_row rfl 95 _ _ rfl S #[.int .u64 mb, .slice ma ml mc, .bool b] rfl rfl 95 (rcc zrc).toArray HRX.out infoRc rfl (by simp [Value.oneCell']) ?_)
    | (go_at_call 69; refine HO.out.mono ?_; rintro e x1 ⟨⟨mb, ma, ml, mc, ms⟩, rfl, hO⟩; have HX : Box (Owned w1 x1 ⟨q, some ⟨bb, oo + 16, none⟩, 160, cap - 16, L.drop 16⟩ ⟨mb, ma, ml, mc, ms⟩) := ⟨hO⟩; have HRX : Box _ := ⟨HR.out x1 hO.2.2.2⟩; clear hO))
   refine bodyPost_ret (results_row2 (t := 2) (u := 3) rfl _ Tryz.underlying95 rfl _ _ S #[.int .u64 mb, .slice ma ml mc, .bool b] infoRc rfl (setRow_heap _ _ _ _ _ _ HRX.out)) rfl ?_
   obtain ⟨h1, h2, h3, h4⟩ := HX.out
   refine ⟨⟨⟨mb, ma, ml, mc, ms⟩, b⟩, rfl, ?_, h2, ?_, below_setRow (below_to HB.out.1 h4) (Nat.le_of_eq HB.out.2.1) _⟩
   ·rw [HP.out, HZB.out]
    show (pl _, b) = _
    rw [h1]
    rfl
   ·refine ⟨own_low2 (own_same h3.own (fun k hk => ?_)) (by have := HB.out; omega), h3.byt, h3.num⟩
    have hk1 := (h3.own.lt k hk).1
    exact (but_setRow x1 S _).block k (h3.own.lt k hk).2 (by have := HB.out.2.2; omega)
 rcases hfit with rfl | rfl
 ·exact key (.inr rfl)
 ·exact key (.inl ⟨rfl, rfl⟩)
attribute [local go_sem] Oper.semAt_some
theorem JC.jrd {w0 w x : World} {J D : Nat} {fp : Nat -> Prop} {j : Jt} {d : Disk.Dk} (h : JC w0 w J D fp j d) (hb : Below w.heap.size w x) : Jrd x J D j := (h.below hb).rd
def tke (j : Jt) (n : Nat) : Int := if j.size - j.st.count < n then 17 else if j.lim < j.nx + (n : Int) then 15 else 0
set_option maxHeartbeats 2000000 in
theorem takes_any {w : World} {J D : Nat} {j : Jt} (h : w.heap[J]? = some (.cells (jcs D j).toArray 88 (0, 0))) (ok : j.Ok) (n : Nat) (hn : n <= 1000000) : Calls Tryz.prog 35 #[.pointer (some ⟨J, 0, none⟩), .int .u64 (n : Int)] w fun e w' => e = .returned (.int .i64 (tke j n)) /\ Below w.heap.size w w' := by
 have hlt := (Array.getElem?_eq_some_iff.1 h).1
 have HR : Box (Calls Tryz.prog 70 #[.pointer (some ⟨J, 0, none⟩)] w fun e w' => e = .returned (.int .u64 ((j.size - j.st.count : Nat) : Int)) /\ Below w.heap.size w w') := ⟨(room_any (jrd_of h ok.key ok.st) ok).mono fun e w' ⟨h1, m, h2⟩ => ⟨h1, by rw [h2]; exact below_drewN (Below.refl _ _) m⟩⟩
 have HJ : Box (∀ x, Below w.heap.size w x -> x.cell? ⟨J, 69, none⟩ = some (.int .u64 j.nx) /\ x.cell? ⟨J, 70, none⟩ = some (.int .u64 j.lim)) := ⟨fun x hx => by
  have := jrd_of ((hx.block J hlt).trans h) ok.key ok.st
  exact ⟨this.nx, this.lim⟩⟩
 have hnx := ok.nx
 have hlm := ok.lim
 have hn2 : 0 <= (n : Int) /\ (n : Int) <= 18446744073709551615 := by omega
 have HA : Box (∀ (x : World) (N : Nat), N = x.heap.size -> Calls Tryz.prog 71 #[.slice (some ⟨N, 0, none⟩) 2 2] (x.alloc (.cells #[.int .u64 j.nx, .int .u64 (n : Int)] 25)) fun e w' => e = addEnd (j.nx + (n : Int)) /\ x.alloc (.cells #[.int .u64 j.nx, .int .u64 (n : Int)] 25) = w') := ⟨fun x N hN => add2 x N hN _ _ (by omega) hn2⟩
 clear h ok
 obtain ⟨r, hr⟩ : ∃ r, j.size - j.st.count = r := ⟨_, rfl⟩
 by_cases h1 : r < n
 ·have e : tke j n = 17 := by unfold tke; rw [hr, if_pos h1]
  rw [e]
  rw [hr] at HR
  have d1 : decide (r < n) = true := by simpa using h1
  clear h1 hr e
  go_enter Tryz.func35, Tryz.ntmps35
  go_wp2_with (go_at_call 70; refine HR.out.mono ?_; rintro e x1 ⟨rfl, hb⟩; have H1 : Box (Below w.heap.size w x1) := ⟨hb⟩; clear hb)
  go_ret
  exact ⟨rfl, H1.out⟩
 ·have d1 : decide (r < n) = false := by simpa using h1
  rw [hr] at HR
  by_cases h2 : j.nx + (n : Int) <= 18446744073709551615
  ·have ea := addEnd_ok h2
   by_cases h3 : j.lim < j.nx + (n : Int)
   ·have e : tke j n = 15 := by unfold tke; rw [hr, if_neg h1, if_pos h3]
    rw [e]
    have d3 : decide (j.lim < j.nx + (n : Int)) = true := by simpa using h3
    generalize j.nx + (n : Int) = s at *
    rw [ea] at HA
    clear h1 h2 h3 hr e ea hnx hlm hn2 hn hlt
    go_enter Tryz.func35, Tryz.ntmps35
    go_upto_region 3 with (go_at_call 70; refine HR.out.mono ?_; rintro e x1 ⟨rfl, hb⟩; have H1 : Box (Below w.heap.size w x1) := ⟨hb⟩; have c1 := (HJ.out x1 hb).1; clear hb)
    obtain ⟨x2, hx2⟩ : ∃ x2, x1.alloc (.cells #[.int .u64 j.nx, .int .u64 (n : Int)] 25) = x2 := ⟨_, rfl⟩
    have hb2 : Below w.heap.size w x2 := by rw [<- hx2]; exact H1.out.alloc H1.out.size _
    have c2 := (HJ.out x2 hb2).2
    have HA1 : Box (∀ N, N = x1.heap.size -> Calls Tryz.prog 71 #[.slice (some ⟨N, 0, none⟩) 2 2] x2 _) := ⟨fun N hN => by have := HA.out x1 N hN; rw [hx2] at this; exact this⟩
    have H2 : Box (Below w.heap.size w x2) := ⟨hb2⟩
    clear hb2 HA HR HJ
    go_wp2_with (go_at_call 71; refine (HA1.out _ rfl).mono ?_; rintro e x3 ⟨rfl, rfl⟩)
    go_ret
    exact ⟨rfl, H2.out⟩
   ·have e : tke j n = 0 := by unfold tke; rw [hr, if_neg h1, if_neg h3]
    rw [e]
    have d3 : decide (j.lim < j.nx + (n : Int)) = false := by simpa using h3
    generalize j.nx + (n : Int) = s at *
    rw [ea] at HA
    clear h1 h2 h3 hr e ea hnx hlm hn2 hn hlt
    go_enter Tryz.func35, Tryz.ntmps35
    go_upto_region 3 with (go_at_call 70; refine HR.out.mono ?_; rintro e x1 ⟨rfl, hb⟩; have H1 : Box (Below w.heap.size w x1) := ⟨hb⟩; have c1 := (HJ.out x1 hb).1; clear hb)
    obtain ⟨x2, hx2⟩ : ∃ x2, x1.alloc (.cells #[.int .u64 j.nx, .int .u64 (n : Int)] 25) = x2 := ⟨_, rfl⟩
    have hb2 : Below w.heap.size w x2 := by rw [<- hx2]; exact H1.out.alloc H1.out.size _
    have c2 := (HJ.out x2 hb2).2
    have HA1 : Box (∀ N, N = x1.heap.size -> Calls Tryz.prog 71 #[.slice (some ⟨N, 0, none⟩) 2 2] x2 _) := ⟨fun N hN => by have := HA.out x1 N hN; rw [hx2] at this; exact this⟩
    have H2 : Box (Below w.heap.size w x2) := ⟨hb2⟩
    clear hb2 HA HR HJ
    go_wp2_with (go_at_call 71; refine (HA1.out _ rfl).mono ?_; rintro e x3 ⟨rfl, rfl⟩)
    go_ret
    exact ⟨rfl, H2.out⟩
  ·have ea := addEnd_no (s := j.nx + (n : Int)) (by omega)
   have e : tke j n = 15 := by unfold tke; rw [hr, if_neg h1, if_pos (by omega)]
   rw [e]
   generalize j.nx + (n : Int) = s at *
   rw [ea] at HA
   clear h1 hr e ea hnx hlm hn2 hn hlt
   go_enter Tryz.func35, Tryz.ntmps35
   go_upto_region 3 with (go_at_call 70; refine HR.out.mono ?_; rintro e x1 ⟨rfl, hb⟩; have H1 : Box (Below w.heap.size w x1) := ⟨hb⟩; have c1 := (HJ.out x1 hb).1; clear hb)
   obtain ⟨x2, hx2⟩ : ∃ x2, x1.alloc (.cells #[.int .u64 j.nx, .int .u64 (n : Int)] 25) = x2 := ⟨_, rfl⟩
   have hb2 : Below w.heap.size w x2 := by rw [<- hx2]; exact H1.out.alloc H1.out.size _
   have c2 := (HJ.out x2 hb2).2
   have HA1 : Box (∀ N, N = x1.heap.size -> Calls Tryz.prog 71 #[.slice (some ⟨N, 0, none⟩) 2 2] x2 _) := ⟨fun N hN => by have := HA.out x1 N hN; rw [hx2] at this; exact this⟩
   have H2 : Box (Below w.heap.size w x2) := ⟨hb2⟩
   clear hb2 HA HR HJ
   go_wp2_with (go_at_call 71; refine (HA1.out _ rfl).mono ?_; rintro e x3 ⟨rfl, rfl⟩)
   go_ret
   exact ⟨rfl, H2.out⟩
end Go.Proofs.YtjdjbjedfbmgpaaGreatDoor
namespace Go.Proofs.YtjdjbjedfbmgpaaGreatDoor
open Go.RowKit Plain
attribute [local go_sem] Oper.semAt_some
theorem range_sa {w : World} {g : Nat} {s : Jst} {t : TypeId} (h : w.heap[g]? = some (.cells (sa s) t (0, 0))) : w.rangeAt g 0 (scs s) := fun j x hx => by
 rw [cell_of_row _ _ _ _ _ _ h, Nat.zero_add]
 simpa [sa] using hx
theorem may_ok {n : Nat} {s : Jst} (h : may n s = true) : s.start < n /\ s.count <= n := by simpa [may] using h
set_option maxHeartbeats 4000000 in
theorem jnew_ok {w0 w : World} {D : Nat} {fp : Nat -> Prop} {d : Disk.Dk} (C : Disk.Cx w0 w D fp d) (K : List Int) (hK : K.length = 32 /\ Byt K) (f n : Nat) (h1 : 1 <= n) (hfit : f + n <= d.n) (hdn : d.n <= 4096) (s : Jst) (hs : OkS s) (hm : may n s = true) (nx lim : Int) (hn : 1 <= nx /\ nx <= 18446744073709551615) (hl : 0 <= lim /\ lim <= 9223372036854775807) (hT : Dig.Tabs w0) (hT2 : Seal.Tab w0) :
  Calls Tryz.prog 8 #[.pointer (some ⟨D, 0, none⟩), .agg (u8s K), .int .i64 (f : Int), .int .i64 (n : Int), .agg (sa s), .int .u64 nx, .int .u64 lim] w fun e w' => ∃ J, e = .returned (.tuple #[.pointer (some ⟨J, 0, none⟩), .int .i64 0]) /\ JC w0 w' J D fp ⟨K, f, n, s, nx, lim⟩ d /\ Below w.heap.size w w' /\ w.heap.size <= J := by
 obtain ⟨S, hS⟩ : ∃ S, w.heap.size = S := ⟨_, rfl⟩
 obtain ⟨AK, hAK⟩ : ∃ A, u8s K = A := ⟨_, rfl⟩
 obtain ⟨w1, hw1⟩ : ∃ w1, (w.alloc (.cells AK 23)).alloc (.cells (sa s) 27) = w1 := ⟨_, rfl⟩
 have hb1 : Below w.heap.size w w1 := by rw [<- hw1]; exact ((Below.refl _ _).alloc (Nat.le_refl _) _).alloc (by simp) _
 have k1 : w1.heap[S]? = some (.cells AK 23 (0, 0)) := by rw [<- hw1]; exact al_old (al_at hS)
 have k2 : w1.heap[S + 1]? = some (.cells (sa s) 27 (0, 0)) := by rw [<- hw1]; exact al_at (by simp [hS])
 have hmm := may_ok hm
 have okj : (⟨K, f, n, s, nx, lim⟩ : Jt).Ok := ⟨hK.1, hK.2, h1, by show f + n <= 4096; omega, hs, hmm.1, hmm.2, hn, hl⟩
 have HSI : Box (Calls Tryz.prog 31 #[.pointer (some ⟨D, 0, none⟩)] w1 fun e w' => e = .returned (.int .i64 (d.n : Int)) /\ w1 = w') := ⟨Disk.size_cx (C.step hb1)⟩
 obtain ⟨J, hJ⟩ : ∃ J, w1.heap.size = J := ⟨_, rfl⟩
 obtain ⟨w2, hw2⟩ : ∃ w2, w1.alloc (.cells (jq (.pointer (some ⟨D, 0, none⟩)) K (f : Int) (n : Int) s nx lim).toArray 88) = w2 := ⟨_, rfl⟩
 have hb2 : Below w1.heap.size w1 w2 := by rw [<- hw2]; exact (Below.refl _ _).alloc (Nat.le_refl _) _
 have r2 : w2.heap[J]? = some (.cells (jcs D ⟨K, f, n, s, nx, lim⟩).toArray 88 (0, 0)) := by rw [<- hw2]; exact al_at hJ
 have HC : Box (JC w0 w2 J D fp ⟨K, f, n, s, nx, lim⟩ d) := ⟨⟨C.step (below_to hb1 hb2), r2, by have := C.bel.size; have := hb1.size; omega, fun hf => by have := C.hi J hf; have := hb1.size; omega, okj, hfit, hT, hT2⟩⟩
 have HMA : Box (Calls Tryz.prog 32 #[.pointer (some ⟨J, 0, none⟩), .agg (sa s)] w2 fun e w' => e = .returned (.bool true) /\ Below w2.heap.size w2 w') := ⟨by have := mayBe_any HC.out.rd s HC.out.lt; rw [show may (⟨K, f, n, s, nx, lim⟩ : Jt).size s = true from hm] at this; exact this⟩
 have HK1 : Box (∀ x, Below w1.heap.size w1 x -> x.rangeAt S 0 (K.map (Value.int .u8)) /\ x.rangeAt (S + 1) 0 (scs s)) := ⟨fun x hx => ⟨fun i v hv => by
  rw [cell_of_row _ _ _ _ _ _ ((hx.block S (Array.getElem?_eq_some_iff.1 k1).1).trans k1), Nat.zero_add, <- hAK]
  simpa [u8s] using hv, range_sa ((hx.block (S + 1) (Array.getElem?_eq_some_iff.1 k2).1).trans k2)⟩⟩
 have HIL : Box ((Tryz.prog.info? 23).map (·.size) = some (K.map (Value.int .u8)).length /\ (Tryz.prog.info? 27).map (·.size) = some (scs s).length) := ⟨by rw [List.length_map, hK.1]; exact infoSum, by rw [len_scs hs]; exact infoSt⟩
 have HBJ : Box (Tryz.prog.built 88 [(0, .pointer (some ⟨D, 0, none⟩)), (1, .agg AK), (2, .int .u64 (f : Int)), (3, .int .u64 (n : Int)), (4, .agg (sa s)), (5, .int .u64 nx), (6, .int .u64 lim)] = some (jq (.pointer (some ⟨D, 0, none⟩)) K (f : Int) (n : Int) s nx lim).toArray) := ⟨by rw [<- hAK]; exact built_J _ rfl K _ _ s nx lim hK.1 hs⟩
 have HAK : Box ((K.map (Value.int .u8)).toArray = AK /\ (scs s).toArray = sa s) := ⟨by rw [<- hAK]; rfl, rfl⟩
 have HFI : Box (Below w.heap.size w w2 /\ w.heap.size <= J) := ⟨below_to hb1 hb2, by rw [<- hJ]; exact hb1.size⟩
 obtain ⟨r, hr⟩ : ∃ r, d.n - f = r := ⟨_, rfl⟩
 have hwr : IntKind.i64.wrap ((d.n : Int) - (f : Int)) = (r : Int) := by rw [IntKind.wrap_i64]; omega
 have g1 : ¬ (f : Int) < 0 := by omega
 have g2 : ¬ (n : Int) < 1 := by omega
 have g3 : decide (r < n) = false := by simp; omega
 have hwf : IntKind.u64.wrap (f : Int) = (f : Int) := by rw [IntKind.wrap_u64]; omega
 have hwn : IntKind.u64.wrap (n : Int) = (n : Int) := by rw [IntKind.wrap_u64]; omega
 have g4 : (nx == 0) = false := by simp; omega
 have g5 : ¬ (9223372036854775807 : Int) < lim := by omega
 have hs2 : (w.alloc (.cells AK 23)).heap.size = S + 1 := by simp [hS]
 rw [hAK]
 have HJ : Box (w1.heap.size = J) := ⟨hJ⟩
 clear C hK h1 hfit hdn hs hm hn hl hT hT2 hmm okj k1 k2 hb1 hb2 r2 hAK hr hJ
 go_enter Tryz.func8, Tryz.ntmps8
 go_upto_region 1 with fail
 (try rw [hs2])
 (try simp only [hS, hw1])
 clear hs2 hw1 hS
 have HR1 := HK1.out w1 (Below.refl _ _)
 have HRa : Box (w1.rangeAt S 0 (K.map (Value.int .u8))) := ⟨HR1.1⟩
 have HRb : Box (w1.rangeAt (S + 1) 0 (scs s)) := ⟨HR1.2⟩
 clear HR1
 go_upto_region 4 with (first
  | (go_at_call 31; refine HSI.out.mono ?_; rintro e x1 ⟨rfl, rfl⟩)
  | (refine atLoad 23 ?_; refine wpList_ldMid rfl 23 _ _ rfl Tryz.underlying23 rfl S 0 rfl (K.map (Value.int .u8)) HIL.out.1 HRa.out ?_; rw [HAK.out.1])
  | (refine atLoad 27 ?_; refine wpList_ldMid rfl 27 _ _ rfl Tryz.underlying27 rfl (S + 1) 0 rfl (scs s) HIL.out.2 HRb.out ?_; rw [HAK.out.2])
  | (refine atBuild 88 ?_; refine wpList_run rfl _ _ (exec_built 88 [(0, .tmp 31), (1, .tmp 32), (2, .tmp 34), (3, .tmp 36), (4, .tmp 37), (5, .tmp 38), (6, .tmp 39)] rfl [(0, .pointer (some ⟨D, 0, none⟩)), (1, .agg AK), (2, .int .u64 (f : Int)), (3, .int .u64 (n : Int)), (4, .agg (sa s)), (5, .int .u64 nx), (6, .int .u64 lim)] rfl _ HBJ.out) ?_))
 (try simp only [HJ.out])
 have HRc : Box (w2.rangeAt (S + 1) 0 (scs s)) := ⟨(HK1.out w2 (by rw [<- hw2]; exact (Below.refl _ _).alloc (Nat.le_refl _) _)).2⟩
 clear hw2 HRa HRb HK1 HSI HBJ
 go_wp2_with (first
  | (go_at_call 32; refine HMA.out.mono ?_; rintro e x2 ⟨rfl, hb⟩; have H2 : Box (Below w2.heap.size w2 x2) := ⟨hb⟩; clear hb)
  | (refine atLoad 27 ?_; refine wpList_ldMid rfl 27 _ _ rfl Tryz.underlying27 rfl (S + 1) 0 rfl (scs s) HIL.out.2 HRc.out ?_; rw [HAK.out.2]))
 go_ret2
 exact ⟨J, rfl, HC.out.below H2.out, below_to HFI.out.1 H2.out, HFI.out.2⟩
end Go.Proofs.YtjdjbjedfbmgpaaGreatDoor
