/-
  What the Go functions Digest and Check of package tree answer, for every level, place and bytes. And what follows it.
-/
import Derived.Deep.QuietTactic
import Derived.BigQuiet
import Derived.Test.YthbbijaikcmaeaaGreatDoorQ17
import Derived.Test.YthbbijaikcmaeaaGreatDoorQ05
namespace Go.Proofs.YthbbijaikcmaeaaGreatDoor
set_option maxRecDepth 100000
set_option linter.unusedVariables false
set_option maxRecDepth 100000
open Go.RowKit Plain
/-- The digest of bytes. -/
def dsha (M : List Int) : List Int := Dig.Plain.sha M
theorem length_dsha (M : List Int) : (dsha M).length = 32 := Dig.Plain.length_sha M
theorem byt_dsha (M : List Int) : Byt (dsha M) := Dig.Plain.byt_sha M
/-- What is digested of what stands at a place. -/
def dg (l p : Int) (L : List Int) : List Int := l % 256 :: (bytesOf p 4 ++ L)
theorem byt_one (z : Int) (h : 0 ≤ z ∧ z ≤ 255) : Byt [z] := byt_cons _ _ h byt_nil
theorem len_dg (l p : Int) (L : List Int) : (dg l p L).length = L.length + 5 := by
  simp [dg, length_bytesOf]
  omega
theorem put4 (x : Int) (w : World) (hx : 0 ≤ x ∧ x ≤ 4294967295) :
    Calls Tryz.prog 80 #[.int .u64 x, .int .i64 4] w fun e w' => ∃ g, e = .returned (.slice (some ⟨g, 0, none⟩) 4 4) ∧ Bytes w' (some ⟨g, 0, none⟩) 4 (bytesOf x 4) ∧ Below w.heap.size w w' :=
  (put_ok x 4 w hx.1 (by omega) (by omega) (by omega)).mono fun e w' ⟨g, he, ho⟩ => ⟨g, he, ho.bytes (bytesOf_bd _ 4), ho.2.2⟩
/-- Three slices of bytes, laid down in a block of their own, digested as one. -/
theorem pieces3 (g : Nat) (a1 a2 a3 : Option Addr) (l1 l2 l3 c1 c2 c3 : Nat) (A B C : List Int) (X : List Int) (w : World) (hT : Dig.Tabs w) (hg : w.heap[g]? = some (.cells #[.slice a1 l1 c1, .slice a2 l2 c2, .slice a3 l3 c3] 38 (0, 0)))
    (hA : Bytes w a1 l1 A) (hB : Bytes w a2 l2 B) (hC : Bytes w a3 l3 C) (k1 : l1 ≤ c1) (k2 : l2 ≤ c2) (k3 : l3 ≤ c3) (m1 : c1 ≤ 9223372036854775807) (m2 : c2 ≤ 9223372036854775807) (m3 : c3 ≤ 9223372036854775807) (hX : A ++ (B ++ C) = X) (hl : X.length ≤ 900000) :
    Calls Tryz.prog 82 #[.slice (some ⟨g, 0, none⟩) 3 3] w fun e w' => e = .returned (.agg (u8s (dsha X))) ∧ Below w.heap.size w w' := by
  refine Dig.pieces_list [⟨a1, l1, c1, A⟩, ⟨a2, l2, c2, B⟩, ⟨a3, l3, c3, C⟩] g 3 X 38 (0, 0) w hT hg ?_ rfl (by omega) (by simp [Dig.joinTo, ← hX]) hl
  intro p hp
  simp only [List.mem_cons, List.not_mem_nil, or_false] at hp
  rcases hp with rfl | rfl | rfl
  · exact ⟨hA, k1, m1⟩
  · exact ⟨hB, k2, m2⟩
  · exact ⟨hC, k3, m3⟩
set_option maxRecDepth 20000 in
set_option maxHeartbeats 1000000 in
theorem digest_any (l p : Int) (a : Option Addr) (len cap : Nat) (L : List Int) (w : World) (hT : Dig.Tabs w) (hp : 0 ≤ p ∧ p ≤ 4294967295) (hb : Bytes w a len L) (hl : len ≤ 800000) (hc : len ≤ cap) (hm : cap ≤ 9223372036854775807) :
    Calls Tryz.prog 56 #[.int .i64 l, .int .u32 p, .slice a len cap] w fun e w' => e = .returned (.agg (u8s (dsha (dg l p L)))) ∧ Below w.heap.size w w' := by
  obtain ⟨X, HX⟩ : ∃ X, Box (dsha (dg l p L) = X) := ⟨_, ⟨rfl⟩⟩
  have HXs : Box ((u8s X).size = 32) := ⟨by rw [← HX.out, size_u8s, length_dsha]⟩
  obtain ⟨S, hS⟩ : ∃ S, w.heap.size = S := ⟨_, rfl⟩
  have HS : Box (w.heap.size = S) := ⟨hS⟩
  have HQ : Box (Byt [l % 256]) := ⟨byt_one _ (by omega)⟩
  have H0 : Box (Dig.Tabs w ∧ Bytes w a len L ∧ len ≤ cap ∧ cap ≤ 9223372036854775807 ∧ len ≤ 800000) := ⟨hT, hb, hc, hm, hl⟩
  have HD : Box (dg l p L = [l % 256] ++ (bytesOf p 4 ++ L)) := ⟨rfl⟩
  have HN : Box ((dg l p L).length ≤ 900000) := ⟨by rw [len_dg, hb.1]; omega⟩
  clear hT hb hc hm hl hS
  generalize dg l p L = M at HX HD HN
  go_enter Tryz.func56, Tryz.ntmps56
  have sum3 : ∀ (z : World) (g q : Nat), Box (z.heap[S]? = some (.cells (u8s z32) 23 (0, 0)) ∧ Below w.heap.size w z ∧ Bytes z (some ⟨q, 0, none⟩) 1 [l % 256] ∧ Bytes z (some ⟨g, 0, none⟩) 4 (bytesOf p 4)) →
      Calls Tryz.prog 82 #[.slice (some ⟨z.heap.size, 0, none⟩) 3 3] (z.alloc (.cells #[.slice (some ⟨q, 0, none⟩) 1 1, .slice (some ⟨g, 0, none⟩) 4 4, .slice a len cap] 38)) fun e w' => e = .returned (.agg (u8s X)) ∧ w'.heap[S]? = some (.cells (u8s z32) 23 (0, 0)) ∧ Below w.heap.size w w' := by
    intro z g q hz
    obtain ⟨q1, q2, q3, q4⟩ := hz.out
    obtain ⟨t1, t2, t3, t4, t5⟩ := H0.out
    have ba := (Below.refl z.heap.size z).alloc (Nat.le_refl _) (.cells #[.slice (some ⟨q, 0, none⟩) 1 1, .slice (some ⟨g, 0, none⟩) 4 4, .slice a len cap] 38)
    have bw := below_to q2 ba
    refine (pieces3 z.heap.size _ _ _ 1 4 len 1 4 cap [l % 256] (bytesOf p 4) L M _ (t1.below bw) (al_at rfl) (q3.below ba) (q4.below ba) (t2.below bw) (by omega) (by omega) t3 (by omega) (by omega) t4 HD.out.symm HN.out).mono fun e w' ⟨he, hb⟩ => ?_
    have hS1 := al_old (o := .cells #[.slice (some ⟨q, 0, none⟩) 1 1, .slice (some ⟨g, 0, none⟩) 4 4, .slice a len cap] 38) q1
    exact ⟨by rw [he, HX.out], (hb.block _ (Array.getElem?_eq_some_iff.1 hS1).1).trans hS1, below_to bw hb⟩
  have H1 : Box ((w.alloc (.cells (u8s z32) 23)).heap[S]? = some (.cells (u8s z32) 23 (0, 0)) ∧ Below w.heap.size w (w.alloc (.cells (u8s z32) 23))) := ⟨al_at HS.out, (Below.refl _ _).alloc (Nat.le_refl _) _⟩
  go_upto_region 1 with (refine wpList_run rfl _ _ (exec_alloc 23 rfl _ zeroS) ?_)
  rw [HS.out]
  generalize w.alloc (.cells (u8s z32) 23) = w1 at H1 ⊢
  have H2 : Box ((w1.alloc (.cells #[.int .u8 (l % 256)] 5)).heap[S]? = some (.cells (u8s z32) 23 (0, 0)) ∧ Below w.heap.size w (w1.alloc (.cells #[.int .u8 (l % 256)] 5)) ∧ Bytes (w1.alloc (.cells #[.int .u8 (l % 256)] 5)) (some ⟨w1.heap.size, 0, none⟩) 1 [l % 256]) := ⟨al_old H1.out.1, below_to H1.out.2 ((Below.refl _ _).alloc (Nat.le_refl _) _), bytes_of_row (X := [l % 256]) (t := 5) (fr := (0, 0)) HQ.out (al_at rfl)⟩
  go_wp2_with (first
    | (refine wpList_store_row rfl 23 _ _ rfl S (u8s X) rfl rfl 23 (u8s z32) H5.out.1 (by rw [HXs.out]; exact infoS) (by rw [HXs.out, size_u8s]; exact len_z32) (all_u8s X) ?_)
    | (go_at_call 82; refine Calls.mono (sum3 w3 g3 w1.heap.size H3) ?_; rintro e w5 ⟨rfl, h5, hb5⟩; have H5 : Box (w5.heap[S]? = some (.cells (u8s z32) 23 (0, 0)) ∧ Below w.heap.size w w5) := ⟨h5, hb5⟩; clear h5 hb5)
    | (go_at_call 80; refine Calls.mono (put4 p _ hp) ?_; rintro e w3 ⟨g3, rfl, hB, hb⟩; have H3 : Box (w3.heap[S]? = some (.cells (u8s z32) 23 (0, 0)) ∧ Below w.heap.size w w3 ∧ Bytes w3 (some ⟨w1.heap.size, 0, none⟩) 1 [l % 256] ∧ Bytes w3 (some ⟨g3, 0, none⟩) 4 (bytesOf p 4)) := ⟨(hb.block _ (Array.getElem?_eq_some_iff.1 H2.out.1).1).trans H2.out.1, below_to H2.out.2.1 hb, H2.out.2.2.below hb, hB⟩; clear hb hB))
  (try simp only [Exit.inBlock, Exit.then])
  refine bodyPost_ret (results_cell_row (p := 6) (ty := 23) rfl _ _ S 23 (u8s X) (0, 0) _ rfl (setRow_heap _ _ _ _ _ _ H5.out.1) Tryz.underlying23 rfl (by rw [HXs.out]; exact infoS)) rfl ?_
  exact ⟨by rw [HX.out], below_setRow H5.out.2 (by rw [HS.out]; exact Nat.le_refl _) _⟩
/-- A ref in a block. -/
def LiesR (w : World) (g : Nat) (r : Rf) : Prop := w.heap[g]? = some (.cells (ra r) 36 (0, 0))
theorem LiesR.lt {w : World} {g : Nat} {r : Rf} (h : LiesR w g r) : g < w.heap.size := (Array.getElem?_eq_some_iff.1 h).1
theorem LiesR.below {w w' : World} {g : Nat} {r : Rf} (h : LiesR w g r) (hb : Below w.heap.size w w') : LiesR w' g r := (hb.block g h.lt).trans h
theorem LiesR.on {w w' : World} {g B : Nat} {r : Rf} (h : LiesR w g r) (hb : Below B w w') (hg : g < B) : LiesR w' g r := (hb.block g hg).trans h
theorem LiesR.sum {w : World} {g : Nat} {r : Rf} (h : LiesR w g r) (hr : OkR r) : Bytes w (some ⟨g, 0, none⟩) 32 r.d :=
  ⟨hr.ld, hr.bd, fun _ => ⟨g, 0, rfl, h.lt, fun i hi => by rw [cell_of_row _ _ _ _ _ _ h, Nat.zero_add, ra, List.getElem?_toArray]; exact rc_sum hr i hi⟩⟩
theorem LiesR.stamp {w : World} {g : Nat} {r : Rf} (h : LiesR w g r) (hr : OkR r) : w.cell? ⟨g, 32, none⟩ = some (.int .u64 r.s) := by
  rw [cell_of_row _ _ _ _ _ _ h, ra, List.getElem?_toArray]; exact rc_stamp hr
theorem bytes_of_sum {w : World} {g : Nat} {X : List Int} (hX : Byt X) (hl : X.length = 32) (hg : w.heap[g]? = some (.cells (u8s X) 23 (0, 0))) : Bytes w (some ⟨g, 0, none⟩) 32 X := by
  have := bytes_of_row hX hg
  rwa [hl] at this
set_option maxRecDepth 20000 in
set_option maxHeartbeats 1000000 in
theorem check_any (r : Rf) (l p : Int) (a : Option Addr) (len cap : Nat) (L : List Int) (w : World) (hr : OkR r) (hT : Dig.Tabs w) (hp : 0 ≤ p ∧ p ≤ 4294967295) (hb : Bytes w a len L) (hl : len ≤ 800000) (hc : len ≤ cap) (hm : cap ≤ 9223372036854775807) :
    Calls Tryz.prog 66 #[.agg (ra r), .int .i64 l, .int .u32 p, .slice a len cap] w fun e w' => e = .returned (.bool (decide (r.d = dsha (dg l p L)))) ∧ Below w.heap.size w w' := by
  obtain ⟨X, HX⟩ : ∃ X, Box (dsha (dg l p L) = X) := ⟨_, ⟨rfl⟩⟩
  have HXs : Box ((u8s X).size = 32 ∧ X.length = 32 ∧ Byt X) := ⟨by rw [← HX.out, size_u8s, length_dsha], by rw [← HX.out, length_dsha], by rw [← HX.out]; exact byt_dsha _⟩
  obtain ⟨S, hS⟩ : ∃ S, w.heap.size = S := ⟨_, rfl⟩
  have HS : Box (w.heap.size = S) := ⟨hS⟩
  have HR : Box (OkR r) := ⟨hr⟩
  have HC : Box (∀ z, Below w.heap.size w z → Calls Tryz.prog 56 #[.int .i64 l, .int .u32 p, .slice a len cap] z fun e w' => e = .returned (.agg (u8s X)) ∧ Below z.heap.size z w') := ⟨fun z hz => by
    rw [← HX.out]
    exact digest_any l p a len cap L z (hT.below hz) hp (hb.below hz) hl hc hm⟩
  have H1 : Box (LiesR (w.alloc (.cells (ra r) 36)) S r ∧ Below w.heap.size w (w.alloc (.cells (ra r) 36))) := ⟨al_at hS, (Below.refl _ _).alloc (Nat.le_refl _) _⟩
  rw [HX.out]
  clear hT hb hl hc hm hp hS hr
  go_enter Tryz.func66, Tryz.ntmps66
  go_upto_region 1 with fail
  rw [HS.out]
  generalize w.alloc (.cells (ra r) 36) = w1 at H1 ⊢
  go_upto_region 2 with (first
    | (refine wpList_store_row rfl 23 _ _ rfl w2.heap.size (u8s X) rfl rfl 23 (u8s z32) (al_at rfl) (by rw [HXs.out.1]; exact infoS) (by rw [HXs.out.1, size_u8s]; exact len_z32) (all_u8s X) ?_)
    | (refine wpList_run rfl _ _ (exec_alloc 23 rfl _ zeroS) ?_)
    | (go_at_call 56; refine Calls.mono (HC.out w1 H1.out.2) ?_; rintro e w2 ⟨rfl, hb⟩; have H2 : Box (LiesR w2 S r ∧ Below w.heap.size w w2) := ⟨H1.out.1.below hb, below_to H1.out.2 hb⟩; clear hb))
  have H3 : Box (LiesR ((w2.alloc (.cells (u8s z32) 23)).setRow w2.heap.size (u8s X)) S r ∧ ((w2.alloc (.cells (u8s z32) 23)).setRow w2.heap.size (u8s X)).heap[w2.heap.size]? = some (.cells (u8s X) 23 (0, 0)) ∧ Below w.heap.size w ((w2.alloc (.cells (u8s z32) 23)).setRow w2.heap.size (u8s X))) := by
    have hlt := H2.out.1.lt
    have hw := H2.out.2.size
    refine ⟨?_, setRow_heap _ _ _ _ _ _ (al_at rfl), below_setRow (below_to H2.out.2 ((Below.refl _ _).alloc (Nat.le_refl _) _)) hw _⟩
    unfold LiesR
    rw [setRow_other _ _ _ _ (by omega)]
    exact al_old H2.out.1
  generalize (w2.alloc (.cells (u8s z32) 23)).setRow w2.heap.size (u8s X) = w3 at H3 ⊢
  generalize w2.heap.size = G at H3 ⊢
  have HE : Box (∀ m, Calls Tryz.prog 88 #[.slice (some ⟨S, 0, none⟩) 32 32, .slice (some ⟨G, 0, none⟩) 32 32] (w3.drewN m) fun e w' => e = .returned (.bool (decide (r.d = X))) ∧ w' = w3.drewN m) := ⟨fun m => by
    have bm : Below w3.heap.size w3 (w3.drewN m) := below_drewN (Below.refl _ _) m
    exact (bytes_any _ _ 32 32 32 32 r.d X _ ((H3.out.1.sum HR.out).below bm) ((bytes_of_sum HXs.out.2.2 HXs.out.2.1 H3.out.2.1).below bm) (by omega) (by omega)).mono fun _ _ ⟨h1, h2⟩ => ⟨h1, h2.symm⟩⟩
  clear HC H1 H2 HX
  simp only [Act.put, List.setIfInBounds_toArray, List.set_cons_zero, List.set_cons_succ]
  go_quiet (first | (go_at_call 88; exact Calls.quiet_of_same (HE.out _)))
  go_wp2
  go_ret
  exact ⟨rfl, below_drewN H3.out.2.2 nq⟩
end Go.Proofs.YthbbijaikcmaeaaGreatDoor
namespace Go.Proofs.YthbbijaikcmaeaaGreatDoor
set_option maxRecDepth 100000
set_option linter.unusedVariables false
open Go.RowKit Plain
theorem nc_split {N : List Rf} (k : Nat) (hk : k < N.length) : nc N = nc (N.take k) ++ (rc N[k] ++ nc (N.drop (k + 1))) := by
  have e : N.take k ++ (N[k] :: N.drop (k + 1)) = N := by rw [← List.drop_eq_getElem_cons hk, List.take_append_drop]
  have e2 := congrArg nc e
  rw [nc_app, nc] at e2
  exact e2.symm
theorem okN_take {N : List Rf} (h : OkN N) (k : Nat) : OkN (N.take k) := fun r hr => h r (List.mem_of_mem_take hr)
theorem ext_n {N : List Rf} (h : OkN N) (k : Nat) (hk : k < N.length) : (na N).extract (k * 33) (k * 33 + 33) = ra N[k] := by
  have hl := len_nc (okN_take h k)
  have hr := len_rc (h.get k hk)
  rw [List.length_take, Nat.min_eq_left (Nat.le_of_lt hk)] at hl
  apply Array.toList_inj.1
  simp only [na, ra, List.extract_toArray, List.extract_eq_take_drop, Nat.add_sub_cancel_left]
  rw [nc_split k hk, List.drop_append_of_le_length (by omega), List.drop_of_length_le (by omega), List.nil_append, List.take_append_of_le_length (by omega), List.take_of_length_le (by omega)]
theorem index_row_row {P : Program} {t el : TypeId} {n s : Nat} {d : TypeDesc} {cs : Array Value} (hu : P.underlying t = some (.array n el)) (he : P.underlying el = some d) (hd : d.isRow = true) (hs : (P.info? el).map (·.size) = some s) (k : Nat) (hk : k < n) (w : World) :
    (Instr.index t (.agg cs) (.int .i64 k)).run P w = .ok (.agg (cs.extract (k * s) (k * s + s))) w := by
  cases hq : P.info? el with
  | none => simp [hq] at hs
  | some i =>
    have hs1 : i.size = s := by simpa [hq] using hs
    have hagg : (isAgg el).run P w = .ok true w := by
      unfold isAgg
      rw [Sem.run_bind, run_underlying he w]
      cases d <;> simp_all [TypeDesc.isRow]
    have hc : (0 : Int) ≤ (k : Int) ∧ (k : Int) < (n : Int) := by omega
    simp [Instr.index, asIntOf, Sem.run_bind, run_underlying hu, hc, sizeOf, typeInfo, hq, hs1, part, hagg]
    intro hc2; omega
theorem index_n {N : List Rf} (h : OkN N) (h4 : N.length = 4) (k : Nat) (hk : k < 4) (w : World) : (Instr.index 107 (.agg (na N)) (.int .i64 k)).run Tryz.prog w = .ok (.agg (ra (N[k]'(by omega)))) w := by
  rw [index_row_row Tryz.underlying107 Tryz.underlying36 rfl infoR k hk w, ext_n h k (by omega)]
theorem put8 (x : Int) (w : World) (hx : N64 x) :
    Calls Tryz.prog 80 #[.int .u64 x, .int .i64 8] w fun e w' => ∃ g, e = .returned (.slice (some ⟨g, 0, none⟩) 8 8) ∧ Bytes w' (some ⟨g, 0, none⟩) 8 (bytesOf x 8) ∧ Below w.heap.size w w' :=
  (put_ok x 8 w hx.1 hx.2 (by omega) (by omega)).mono fun e w' ⟨g, he, ho⟩ => ⟨g, he, ho.bytes (bytesOf_bd _ 8), ho.2.2⟩
/-- What Put has put so far, in memory of its own from block B on. -/
def Pu (w1 wr : World) (B : Nat) (v : Value) (n : Nat) (A : List Int) : Prop :=
  wr.ownsRow B 5 1 v n (A.map (Value.int .u8)) ∧ Below B w1 wr ∧ B ≤ wr.heap.size
theorem Pu.below {w1 wr w' : World} {B n : Nat} {v : Value} {A : List Int} (h : Pu w1 wr B v n A) (hb : Below wr.heap.size wr w') : Pu w1 w' B v n A :=
  ⟨own_later h.1 hb, h.2.1.trans (hb.mono h.2.2), Nat.le_trans h.2.2 hb.size⟩
theorem Pu.app {w1 wr w' : World} {B n m : Nat} {v v' : Value} {A L : List Int} (h : Pu w1 wr B v n A) (hw : Box (w'.ownsRow B 5 1 v' (n + m) ((A ++ L).map (Value.int .u8)) ∧ Below B wr w' ∧ B ≤ w'.heap.size)) : Pu w1 w' B v' (n + m) (A ++ L) :=
  ⟨hw.out.1, h.2.1.trans hw.out.2.1, hw.out.2.2⟩
theorem nb_snoc {N : List Rf} (k : Nat) (hk : k < N.length) : nb (N.take (k + 1)) = nb (N.take k) ++ N[k].d ++ bytesOf N[k].s 8 := by
  rw [List.take_add_one, List.getElem?_eq_getElem hk, nb_app]
  simp [nb, rb, List.append_assoc]
/-- Bytes appended to a row of the call's own; what is of another type stays. -/
theorem wpList_appT {ops : Array Oper} {rest : List Oper} {o : Oper} {act : Act} {w : World} {Q : Exit → Act → World → Prop} (hgd : o.guard = none) (s x : Operand)
    (ho : o.op = .call { callee := .builtin .append, args := #[s, x], argTypes := #[38, 38] }) (base n m c : Nat) (v : Value) (A L : List Int) (a : Option Addr) (w0 : World)
    (hs : act.eval s = v) (hx : act.eval x = .slice a m c) (hown : w.ownsRow base 5 1 v n (A.map (Value.int .u8))) (hb : Bytes w a m L) (hl : n + m ≤ 140737488355328) (hbel : Below base w0 w) (hbase : base ≤ w.heap.size)
    (h : ∀ v' w', Box (w'.ownsRow base 5 1 v' (n + m) ((A ++ L).map (Value.int .u8)) ∧ Below base w0 w' ∧ base ≤ w'.heap.size) → (∀ (G : Nat) (cs : Array Value) (t : TypeId) (fr : Nat × Nat), t ≠ 5 → w.heap[G]? = some (.cells cs t fr) → w'.heap[G]? = some (.cells cs t fr)) → wpList Tryz.prog ops Q rest (act.put o.dst v') w') : wpList Tryz.prog ops Q (o :: rest) act w := by
  obtain ⟨i0, hi, hz0, hz1, hz2⟩ := info_parts info5
  cases a with
  | none =>
    have hm : m = 0 := by
      by_cases hm : m = 0
      · exact hm
      · obtain ⟨_, _, he, _⟩ := hb.2.2 (by omega)
        cases he
    subst hm
    obtain rfl : L = [] := List.eq_nil_of_length_eq_zero hb.1
    refine wpList_plain hgd fun _ hK => ?_
    unfold Oper.wp execOp
    simp only [ho, resolve, invoke, builtin, Sem.run_bind, Sem.run_pure, Result.andThen_ok, List.map_toArray, List.map_cons, List.map_nil, hs, hx, run_append_none hown]
    exact hK _ _ (h v w ⟨by simpa using hown, hbel, hbase⟩ (fun _ _ _ _ _ hG => hG))
  | some ad =>
    refine wpList_append_own w hgd s x 38 ho base 5 i0 (.int .u8 0) 1 1 Tryz.underlying38 hi hz0 hz1 hz2 rfl (by decide) v n _ hs hown ad m c (L.map (Value.int .u8)) hx (by simp [hb.1]) (bytes_news hb) (ints_oneCell _ _) (by unfold maxLen; omega) (by omega) hbase ?_
    intro v' w' h1 h2 _
    have hz := h2.size
    refine h v' w' ⟨by rw [List.map_append]; exact h1, hbel.grown h2 hbase (own_block_le hown), by omega⟩ (fun G cs t fr ht hG => ?_)
    have hlt := (Array.getElem?_eq_some_iff.1 hG).1
    rw [h2.block G hlt ?_]
    · exact hG
    · intro e
      rcases hown.2 with ⟨rfl, _⟩ | ⟨g, cap', cur, rfl, _, hh, _⟩
      · cases e
      · have e' : G = g := by simpa [Value.ownBlock] using e
        subst e'
        rw [hG] at hh
        simp only [Option.some.injEq, Obj.cells.injEq] at hh
        exact ht hh.2.1
theorem getD_is {N : List Rf} (k : Nat) (hk : k < N.length) : N.getD k zr = N[k] := by simp [List.getD, hk]
set_option maxRecDepth 20000 in
set_option maxHeartbeats 1000000 in
theorem tput_any (N : List Rf) (w : World) (hN : OkN N) (h4 : N.length = 4) : Calls Tryz.prog 81 #[.agg (na N)] w fun e w' => ∃ a cap, e = .returned (.slice a 160 cap) ∧ Bytes w' a 160 (nb N) ∧ 160 ≤ cap ∧ cap ≤ maxLen ∧ Below w.heap.size w w' := by
  obtain ⟨i0, hi, hz0, hz1, hz2⟩ := info_parts info5
  obtain ⟨S, hS⟩ : ∃ S, w.heap.size = S := ⟨_, rfl⟩
  have HS : Box (w.heap.size = S) := ⟨hS⟩
  have HN : Box (OkN N ∧ N.length = 4) := ⟨hN, h4⟩
  have HX : Box (∀ k : Nat, k < 4 → (∀ x, (Instr.index 107 (.agg (na N)) (.int .i64 k)).run Tryz.prog x = .ok (.agg (ra (N.getD k zr))) x) ∧ OkR (N.getD k zr) ∧ nb (N.take (k + 1)) = nb (N.take k) ++ (N.getD k zr).d ++ bytesOf (N.getD k zr).s 8) := ⟨fun k hk => by
    have hk' : k < N.length := by omega
    rw [getD_is k hk']
    exact ⟨fun x => index_n hN h4 k hk x, hN.get k hk', nb_snoc k hk'⟩⟩
  have H1 : Box ((w.alloc (.cells (na N) 107)).heap[S]? = some (.cells (na N) 107 (0, 0)) ∧ (w.alloc (.cells (na N) 107)).heap.size = S + 1 ∧ Below S w (w.alloc (.cells (na N) 107)) ∧ (nc N).length = 132) := ⟨al_at hS, by simp [hS], (Below.refl _ _).alloc (by omega) _, by rw [len_nc hN, h4]⟩
  clear hS hN h4
  go_enter Tryz.func81, Tryz.ntmps81
  go_upto_region 1 with fail
  rw [HS.out]
  generalize w.alloc (.cells (na N) 107) = w1 at H1 ⊢
  have M2 : ∀ w2 : World, w2.ownsRow (S + 1) 5 1 (.slice (some ⟨w1.heap.size, 0, none⟩) 0 160) 0 [] → w1.grownBy w2 none → Box (Pu w1 w2 (S + 1) (.slice (some ⟨w1.heap.size, 0, none⟩) 0 160) 0 [] ∧ w2.heap[S]? = some (.cells (na N) 107 (0, 0))) := fun w2 hown hgr => by
    have hb : Below (S + 1) w1 w2 := (Below.refl _ _).grown hgr (by rw [H1.out.2.1]; exact Nat.le_refl _) (by simp)
    exact ⟨⟨hown, hb, by have := hgr.size; rw [H1.out.2.1] at this; exact this⟩, (hb.block S (by omega)).trans H1.out.1⟩
  go_upto_region 2 with (at_make; refine wpList_make_own _ rfl _ _ 38 rfl (S + 1) 5 i0 (.int .u8 0) 1 Tryz.underlying38 hi hz0 hz1 .i64 .i64 160 160 rfl rfl rfl (by rw [hz2]; decide) (by decide) (by rw [H1.out.2.1]; exact Nat.le_refl _) ?_; intro w2 hown hgr; have H2 := M2 w2 hown hgr; clear hown hgr M2)
  generalize w1.heap.size = g2 at H2 ⊢
  have HR : Box (w2.rangeAt S 0 (nc N) ∧ (nc N).length = 132) := ⟨range_arr H2.out.2 (nc N) (fun j v hv => by rw [Nat.zero_add, na, List.getElem?_toArray]; exact hv), H1.out.2.2.2⟩
  have HB : Box (Below S w w1) := ⟨H1.out.2.2.1⟩
  go_wp2_with (first | (refine wpList_load_mid rfl 107 _ rfl S 0 rfl (nc N) _ HR.out.1 Tryz.underlying107 rfl (by rw [HR.out.2]; exact infoN) ?_))
  have HA : Box ((nc N).toArray = na N) := ⟨rfl⟩
  rw [HA.out]
  clear HR H1 HA
  go_loopw [3, 8] (fun v i wr => ∃ k : Nat, k ≤ 4 ∧ i = .int .i64 k ∧ Box (Pu w1 wr (S + 1) v (k * 40) (nb (N.take k)))) (fun _ i _ => 4 - (intOf i).toNat)
  case atStart => exact ⟨0, by omega, rfl, ⟨H2.out.1⟩⟩
  case round =>
    obtain ⟨k, hk, rfl, HP⟩ := hrel
    clear H2
    by_cases hlt : k < 4
    · obtain ⟨hix, h1, h2⟩ := HX.out k hlt
      have HL : Box (OkR (N.getD k zr) ∧ nb (N.take (k + 1)) = nb (N.take k) ++ (N.getD k zr).d ++ bytesOf (N.getD k zr).s 8) := ⟨h1, h2⟩
      clear h1 h2
      generalize N.getD k zr = r at hix HL
      have HZ : Box ((ra r).size = 33 ∧ (ra zr).size = 33) := ⟨size_ra HL.out.1, size_ra okR_zr⟩
      have HM : Box (k * 40 + 32 ≤ 140737488355328 ∧ k * 40 + 32 + 8 ≤ 140737488355328) := ⟨by omega, by omega⟩
      have hst := HL.out.1.hs
      go_upto_region 5 with (first
        | (refine wpList_store_row rfl 36 _ _ rfl wr.heap.size (ra r) rfl rfl 36 (ra zr) (al_at rfl) (by rw [HZ.out.1]; exact infoR) (by rw [HZ.out.1, HZ.out.2]) (all_ra r) ?_)
        | (refine wpList_run rfl _ _ (exec_alloc 36 rfl _ zeroR) ?_))
      have H3 : Box (Pu w1 ((wr.alloc (.cells (ra zr) 36)).setRow wr.heap.size (ra r)) (S + 1) u3 (k * 40) (nb (N.take k)) ∧ LiesR ((wr.alloc (.cells (ra zr) 36)).setRow wr.heap.size (ra r)) wr.heap.size r) := ⟨HP.out.below (below_setRow ((Below.refl _ _).alloc (Nat.le_refl _) _) (Nat.le_refl _) _), setRow_heap _ _ _ _ _ _ (al_at rfl)⟩
      generalize (wr.alloc (.cells (ra zr) 36)).setRow wr.heap.size (ra r) = w3 at H3 ⊢
      generalize wr.heap.size = G at H3 ⊢
      clear HP hix
      simp only [Act.put, List.setIfInBounds_toArray, List.set_cons_zero, List.set_cons_succ]
      go_upto_region 6 with (first | (at_builtin; refine wpList_appT rfl (.tmp 11) (.tmp 13) rfl (S + 1) (k * 40) 32 32 _ (nb (N.take k)) r.d _ w3 rfl rfl H3.out.1.1 (H3.out.2.sum HL.out.1) HM.out.1 (Below.refl _ _) H3.out.1.2.2 ?_; intro v4 w4 h4 h4'; have H4 : Box (Pu w1 w4 (S + 1) v4 (k * 40 + 32) (nb (N.take k) ++ r.d) ∧ LiesR w4 G r) := ⟨H3.out.1.app h4, h4' G _ _ _ (by decide) H3.out.2⟩; clear h4 h4'))
      have hc : w4.cell? ⟨G, 32, none⟩ = some (.int .u64 r.s) := H4.out.2.stamp HL.out.1
      clear H3
      generalize r.s = z at hc hst HL
      go_wp2_with (first
        | (go_at_call 80; refine Calls.mono (put8 z _ hst) ?_; rintro e w5 ⟨g5, rfl, hB, hb⟩; have H5 : Box (Pu w1 w5 (S + 1) v4 (k * 40 + 32) (nb (N.take k) ++ r.d) ∧ Bytes w5 (some ⟨g5, 0, none⟩) 8 (bytesOf z 8)) := ⟨H4.out.1.below hb, hB⟩; clear hB hb hc)
        | (at_builtin; refine wpList_app rfl (.tmp 15) (.tmp 18) rfl (S + 1) (k * 40 + 32) 8 8 _ (nb (N.take k) ++ r.d) (bytesOf z 8) _ w5 rfl rfl H5.out.1.1 H5.out.2 HM.out.2 (Below.refl _ _) H5.out.1.2.2 ?_; intro v6 w6 h6; have H6 : Box (Pu w1 w6 (S + 1) v6 (k * 40 + 32 + 8) (nb (N.take k) ++ r.d ++ bytesOf z 8)) := ⟨H5.out.1.app h6⟩; clear h6 H5))
      go_roundw
      case rel => exact ⟨k + 1, by omega, by go_num, ⟨by rw [HL.out.2, show (k + 1) * 40 = k * 40 + 32 + 8 by omega]; exact H6.out⟩⟩
      case measure => simp [intOf]; omega
    · obtain rfl : k = 4 := by omega
      have e4 : N.take 4 = N := List.take_of_length_le (by rw [HN.out.2]; exact Nat.le_refl _)
      rw [e4] at HP
      obtain ⟨a5, c5, rfl⟩ := own_form HP.out.1
      go_wp2
      go_ret
      refine ⟨a5, c5, rfl, own_bytes HP.out.1 (byt_nb HN.out.1), (own_cap HP.out.1).1, (own_cap HP.out.1).2, ?_⟩
      rw [HS.out]
      exact HB.out.trans (HP.out.2.1.mono (by omega))
end Go.Proofs.YthbbijaikcmaeaaGreatDoor
