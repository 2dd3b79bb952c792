/-
  What the Go functions Digest and Check of package tree answer, for every level, place and bytes.
-/
import Derived.Test.YtlbapcpcabieaaaDoorG2
import Derived.Test.YtlbapcpcabieaaaDoorG3
import Derived.Test.YtlbapcpcabieaaaDoorJ2
import Derived.Test.YtlbapcpcabieaaaDoorHO1
import Derived.Deep.QuietTactic
import Derived.BigQuiet
namespace Go.Proofs.YtlbapcpcabieaaaDoor
set_option linter.unusedVariables false
open Go.RowKit Plain

/-- The digest of bytes. -/
def dsha (M : List Int) : List Int := Dig.Plain.sha M
theorem length_dsha (M : List Int) : (dsha M).length = 32 := Dig.Plain.length_sha M
theorem byt_dsha (M : List Int) : Byt (dsha M) := Dig.Plain.byt_sha M
/-- What is digested of what stands at a place. -/
def dg (l p : Int) (L : List Int) : List Int := l % 256 :: (bytesOf p 4 ++ L)
theorem byt_one (z : Int) (h : 0 ≤ z ∧ z ≤ 255) : Byt [z] := byt_cons _ _ h byt_nil
theorem len_dg (l p : Int) (L : List Int) : (dg l p L).length = L.length + 5 := by
  simp [dg, length_bytesOf]
  omega
theorem put4 (x : Int) (w : World) (hx : 0 ≤ x ∧ x ≤ 4294967295) :
    Calls Tryd.prog 21 #[.int .u64 x, .int .i64 4] w fun e w' => ∃ g, e = .returned (.slice (some ⟨g, 0, none⟩) 4 4) ∧ Bytes w' (some ⟨g, 0, none⟩) 4 (bytesOf x 4) ∧ Below w.heap.size w w' :=
  (put_ok x 4 w hx.1 (by omega) (by omega) (by omega)).mono fun e w' ⟨g, he, ho⟩ => ⟨g, he, ho.bytes (bytesOf_bd _ 4), ho.2.2⟩
/-- Three slices of bytes, laid down in a block of their own, digested as one. -/
theorem pieces3 (g : Nat) (a1 a2 a3 : Option Addr) (l1 l2 l3 c1 c2 c3 : Nat) (A B C : List Int) (X : List Int) (w : World) (hT : Dig.Tabs w) (hg : w.heap[g]? = some (.cells #[.slice a1 l1 c1, .slice a2 l2 c2, .slice a3 l3 c3] 29 (0, 0)))
    (hA : Bytes w a1 l1 A) (hB : Bytes w a2 l2 B) (hC : Bytes w a3 l3 C) (k1 : l1 ≤ c1) (k2 : l2 ≤ c2) (k3 : l3 ≤ c3) (m1 : c1 ≤ 9223372036854775807) (m2 : c2 ≤ 9223372036854775807) (m3 : c3 ≤ 9223372036854775807) (hX : A ++ (B ++ C) = X) (hl : X.length ≤ 900000) :
    Calls Tryd.prog 25 #[.slice (some ⟨g, 0, none⟩) 3 3] w fun e w' => e = .returned (.agg (u8s (dsha X))) ∧ Below w.heap.size w w' := by
  refine Dig.pieces_list [⟨a1, l1, c1, A⟩, ⟨a2, l2, c2, B⟩, ⟨a3, l3, c3, C⟩] g 3 X 29 (0, 0) w hT hg ?_ rfl (by omega) (by simp [Dig.joinTo, ← hX]) hl
  intro p hp
  simp only [List.mem_cons, List.not_mem_nil, or_false] at hp
  rcases hp with rfl | rfl | rfl
  · exact ⟨hA, k1, m1⟩
  · exact ⟨hB, k2, m2⟩
  · exact ⟨hC, k3, m3⟩

set_option maxRecDepth 20000 in
set_option maxHeartbeats 1000000 in
theorem digest_any (l p : Int) (a : Option Addr) (len cap : Nat) (L : List Int) (w : World) (hT : Dig.Tabs w) (hp : 0 ≤ p ∧ p ≤ 4294967295) (hb : Bytes w a len L) (hl : len ≤ 800000) (hc : len ≤ cap) (hm : cap ≤ 9223372036854775807) :
    Calls Tryd.prog 14 #[.int .i64 l, .int .u32 p, .slice a len cap] w fun e w' => e = .returned (.agg (u8s (dsha (dg l p L)))) ∧ Below w.heap.size w w' := by
  obtain ⟨X, HX⟩ : ∃ X, Box (dsha (dg l p L) = X) := ⟨_, ⟨rfl⟩⟩
  have HXs : Box ((u8s X).size = 32) := ⟨by rw [← HX.out, size_u8s, length_dsha]⟩
  obtain ⟨S, hS⟩ : ∃ S, w.heap.size = S := ⟨_, rfl⟩
  have HS : Box (w.heap.size = S) := ⟨hS⟩
  have HQ : Box (Byt [l % 256]) := ⟨byt_one _ (by omega)⟩
  have H0 : Box (Dig.Tabs w ∧ Bytes w a len L ∧ len ≤ cap ∧ cap ≤ 9223372036854775807 ∧ len ≤ 800000) := ⟨hT, hb, hc, hm, hl⟩
  have HD : Box (dg l p L = [l % 256] ++ (bytesOf p 4 ++ L)) := ⟨rfl⟩
  have HN : Box ((dg l p L).length ≤ 900000) := ⟨by rw [len_dg, hb.1]; omega⟩
  clear hT hb hc hm hl hS
  generalize dg l p L = M at HX HD HN
  go_enter Tryd.func14, Tryd.ntmps14
  have sum3 : ∀ (z : World) (g q : Nat), Box (z.heap[S]? = some (.cells (u8s z32) 23 (0, 0)) ∧ Below w.heap.size w z ∧ Bytes z (some ⟨q, 0, none⟩) 1 [l % 256] ∧ Bytes z (some ⟨g, 0, none⟩) 4 (bytesOf p 4)) →
      Calls Tryd.prog 25 #[.slice (some ⟨z.heap.size, 0, none⟩) 3 3] (z.alloc (.cells #[.slice (some ⟨q, 0, none⟩) 1 1, .slice (some ⟨g, 0, none⟩) 4 4, .slice a len cap] 29)) fun e w' => e = .returned (.agg (u8s X)) ∧ w'.heap[S]? = some (.cells (u8s z32) 23 (0, 0)) ∧ Below w.heap.size w w' := by
    intro z g q hz
    obtain ⟨q1, q2, q3, q4⟩ := hz.out
    obtain ⟨t1, t2, t3, t4, t5⟩ := H0.out
    have ba := (Below.refl z.heap.size z).alloc (Nat.le_refl _) (.cells #[.slice (some ⟨q, 0, none⟩) 1 1, .slice (some ⟨g, 0, none⟩) 4 4, .slice a len cap] 29)
    have bw := below_to q2 ba
    refine (pieces3 z.heap.size _ _ _ 1 4 len 1 4 cap [l % 256] (bytesOf p 4) L M _ (t1.below bw) (al_at rfl) (q3.below ba) (q4.below ba) (t2.below bw) (by omega) (by omega) t3 (by omega) (by omega) t4 HD.out.symm HN.out).mono fun e w' ⟨he, hb⟩ => ?_
    have hS1 := al_old (o := .cells #[.slice (some ⟨q, 0, none⟩) 1 1, .slice (some ⟨g, 0, none⟩) 4 4, .slice a len cap] 29) q1
    exact ⟨by rw [he, HX.out], (hb.block _ (Array.getElem?_eq_some_iff.1 hS1).1).trans hS1, below_to bw hb⟩
  have H1 : Box ((w.alloc (.cells (u8s z32) 23)).heap[S]? = some (.cells (u8s z32) 23 (0, 0)) ∧ Below w.heap.size w (w.alloc (.cells (u8s z32) 23))) := ⟨al_at HS.out, (Below.refl _ _).alloc (Nat.le_refl _) _⟩
  go_upto_region 1 with (refine wpList_run rfl _ _ (exec_alloc 23 rfl _ zeroS) ?_)
  rw [HS.out]
  generalize w.alloc (.cells (u8s z32) 23) = w1 at H1 ⊢
  have H2 : Box ((w1.alloc (.cells #[.int .u8 (l % 256)] 5)).heap[S]? = some (.cells (u8s z32) 23 (0, 0)) ∧ Below w.heap.size w (w1.alloc (.cells #[.int .u8 (l % 256)] 5)) ∧ Bytes (w1.alloc (.cells #[.int .u8 (l % 256)] 5)) (some ⟨w1.heap.size, 0, none⟩) 1 [l % 256]) := ⟨al_old H1.out.1, below_to H1.out.2 ((Below.refl _ _).alloc (Nat.le_refl _) _), bytes_of_row (X := [l % 256]) (t := 5) (fr := (0, 0)) HQ.out (al_at rfl)⟩
  go_wp2_with (first
    | (refine wpList_store_row rfl 23 _ _ rfl S (u8s X) rfl rfl 23 (u8s z32) H5.out.1 (by rw [HXs.out]; exact infoS) (by rw [HXs.out, size_u8s]; exact len_z32) (all_u8s X) ?_)
    | (go_at_call 25; refine Calls.mono (sum3 w3 g3 w1.heap.size H3) ?_; rintro e w5 ⟨rfl, h5, hb5⟩; have H5 : Box (w5.heap[S]? = some (.cells (u8s z32) 23 (0, 0)) ∧ Below w.heap.size w w5) := ⟨h5, hb5⟩; clear h5 hb5)
    | (go_at_call 21; refine Calls.mono (put4 p _ hp) ?_; rintro e w3 ⟨g3, rfl, hB, hb⟩; have H3 : Box (w3.heap[S]? = some (.cells (u8s z32) 23 (0, 0)) ∧ Below w.heap.size w w3 ∧ Bytes w3 (some ⟨w1.heap.size, 0, none⟩) 1 [l % 256] ∧ Bytes w3 (some ⟨g3, 0, none⟩) 4 (bytesOf p 4)) := ⟨(hb.block _ (Array.getElem?_eq_some_iff.1 H2.out.1).1).trans H2.out.1, below_to H2.out.2.1 hb, H2.out.2.2.below hb, hB⟩; clear hb hB))
  (try simp only [Exit.inBlock, Exit.then])
  refine bodyPost_ret (results_cell_row (p := 6) (ty := 23) rfl _ _ S 23 (u8s X) (0, 0) _ rfl (setRow_heap _ _ _ _ _ _ H5.out.1) Tryd.underlying23 rfl (by rw [HXs.out]; exact infoS)) rfl ?_
  exact ⟨by rw [HX.out], below_setRow H5.out.2 (by rw [HS.out]; exact Nat.le_refl _) _⟩

/-- A ref in a block. -/
def LiesR (w : World) (g : Nat) (r : Rf) : Prop := w.heap[g]? = some (.cells (ra r) 26 (0, 0))
theorem LiesR.lt {w : World} {g : Nat} {r : Rf} (h : LiesR w g r) : g < w.heap.size := (Array.getElem?_eq_some_iff.1 h).1
theorem LiesR.below {w w' : World} {g : Nat} {r : Rf} (h : LiesR w g r) (hb : Below w.heap.size w w') : LiesR w' g r := (hb.block g h.lt).trans h
theorem LiesR.on {w w' : World} {g B : Nat} {r : Rf} (h : LiesR w g r) (hb : Below B w w') (hg : g < B) : LiesR w' g r := (hb.block g hg).trans h
theorem LiesR.sum {w : World} {g : Nat} {r : Rf} (h : LiesR w g r) (hr : OkR r) : Bytes w (some ⟨g, 0, none⟩) 32 r.d :=
  ⟨hr.ld, hr.bd, fun _ => ⟨g, 0, rfl, h.lt, fun i hi => by rw [cell_of_row _ _ _ _ _ _ h, Nat.zero_add, ra, List.getElem?_toArray]; exact rc_sum hr i hi⟩⟩
theorem LiesR.stamp {w : World} {g : Nat} {r : Rf} (h : LiesR w g r) (hr : OkR r) : w.cell? ⟨g, 32, none⟩ = some (.int .u64 r.s) := by
  rw [cell_of_row _ _ _ _ _ _ h, ra, List.getElem?_toArray]; exact rc_stamp hr
theorem bytes_of_sum {w : World} {g : Nat} {X : List Int} (hX : Byt X) (hl : X.length = 32) (hg : w.heap[g]? = some (.cells (u8s X) 23 (0, 0))) : Bytes w (some ⟨g, 0, none⟩) 32 X := by
  have := bytes_of_row hX hg
  rwa [hl] at this
set_option maxRecDepth 20000 in
set_option maxHeartbeats 1000000 in
theorem check_any (r : Rf) (l p : Int) (a : Option Addr) (len cap : Nat) (L : List Int) (w : World) (hr : OkR r) (hT : Dig.Tabs w) (hp : 0 ≤ p ∧ p ≤ 4294967295) (hb : Bytes w a len L) (hl : len ≤ 800000) (hc : len ≤ cap) (hm : cap ≤ 9223372036854775807) :
    Calls Tryd.prog 16 #[.agg (ra r), .int .i64 l, .int .u32 p, .slice a len cap] w fun e w' => e = .returned (.bool (decide (r.d = dsha (dg l p L)))) ∧ Below w.heap.size w w' := by
  obtain ⟨X, HX⟩ : ∃ X, Box (dsha (dg l p L) = X) := ⟨_, ⟨rfl⟩⟩
  have HXs : Box ((u8s X).size = 32 ∧ X.length = 32 ∧ Byt X) := ⟨by rw [← HX.out, size_u8s, length_dsha], by rw [← HX.out, length_dsha], by rw [← HX.out]; exact byt_dsha _⟩
  obtain ⟨S, hS⟩ : ∃ S, w.heap.size = S := ⟨_, rfl⟩
  have HS : Box (w.heap.size = S) := ⟨hS⟩
  have HR : Box (OkR r) := ⟨hr⟩
  have HC : Box (∀ z, Below w.heap.size w z → Calls Tryd.prog 14 #[.int .i64 l, .int .u32 p, .slice a len cap] z fun e w' => e = .returned (.agg (u8s X)) ∧ Below z.heap.size z w') := ⟨fun z hz => by
    rw [← HX.out]
    exact digest_any l p a len cap L z (hT.below hz) hp (hb.below hz) hl hc hm⟩
  have H1 : Box (LiesR (w.alloc (.cells (ra r) 26)) S r ∧ Below w.heap.size w (w.alloc (.cells (ra r) 26))) := ⟨al_at hS, (Below.refl _ _).alloc (Nat.le_refl _) _⟩
  rw [HX.out]
  clear hT hb hl hc hm hp hS hr
  go_enter Tryd.func16, Tryd.ntmps16
  go_upto_region 1 with fail
  rw [HS.out]
  generalize w.alloc (.cells (ra r) 26) = w1 at H1 ⊢
  go_upto_region 2 with (first
    | (refine wpList_store_row rfl 23 _ _ rfl w2.heap.size (u8s X) rfl rfl 23 (u8s z32) (al_at rfl) (by rw [HXs.out.1]; exact infoS) (by rw [HXs.out.1, size_u8s]; exact len_z32) (all_u8s X) ?_)
    | (refine wpList_run rfl _ _ (exec_alloc 23 rfl _ zeroS) ?_)
    | (go_at_call 14; refine Calls.mono (HC.out w1 H1.out.2) ?_; rintro e w2 ⟨rfl, hb⟩; have H2 : Box (LiesR w2 S r ∧ Below w.heap.size w w2) := ⟨H1.out.1.below hb, below_to H1.out.2 hb⟩; clear hb))
  have H3 : Box (LiesR ((w2.alloc (.cells (u8s z32) 23)).setRow w2.heap.size (u8s X)) S r ∧ ((w2.alloc (.cells (u8s z32) 23)).setRow w2.heap.size (u8s X)).heap[w2.heap.size]? = some (.cells (u8s X) 23 (0, 0)) ∧ Below w.heap.size w ((w2.alloc (.cells (u8s z32) 23)).setRow w2.heap.size (u8s X))) := by
    have hlt := H2.out.1.lt
    have hw := H2.out.2.size
    refine ⟨?_, setRow_heap _ _ _ _ _ _ (al_at rfl), below_setRow (below_to H2.out.2 ((Below.refl _ _).alloc (Nat.le_refl _) _)) hw _⟩
    unfold LiesR
    rw [setRow_other _ _ _ _ (by omega)]
    exact al_old H2.out.1
  generalize (w2.alloc (.cells (u8s z32) 23)).setRow w2.heap.size (u8s X) = w3 at H3 ⊢
  generalize w2.heap.size = G at H3 ⊢
  have HE : Box (∀ m, Calls Tryd.prog 26 #[.slice (some ⟨S, 0, none⟩) 32 32, .slice (some ⟨G, 0, none⟩) 32 32] (w3.drewN m) fun e w' => e = .returned (.bool (decide (r.d = X))) ∧ w' = w3.drewN m) := ⟨fun m => by
    have bm : Below w3.heap.size w3 (w3.drewN m) := below_drewN (Below.refl _ _) m
    exact (bytes_any _ _ 32 32 32 32 r.d X _ ((H3.out.1.sum HR.out).below bm) ((bytes_of_sum HXs.out.2.2 HXs.out.2.1 H3.out.2.1).below bm) (by omega) (by omega)).mono fun _ _ ⟨h1, h2⟩ => ⟨h1, h2.symm⟩⟩
  clear HC H1 H2 HX
  simp only [Act.put, List.setIfInBounds_toArray, List.set_cons_zero, List.set_cons_succ]
  go_quiet (first | (go_at_call 26; exact Calls.quiet_of_same (HE.out _)))
  go_wp2
  go_ret
  exact ⟨rfl, below_drewN H3.out.2.2 nq⟩
end Go.Proofs.YtlbapcpcabieaaaDoor
