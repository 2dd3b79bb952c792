/-
 What the reference's Seal and Open answer, for every key, place, version, string and number.
-/
import Derived.Test.YthfobaeafapbnaaDoorQ01
import Derived.Test.YthfobaeafapbnaaDoorQ21
set_option linter.unusedVariables false
set_option maxRecDepth 100000
namespace Go.Proofs.YthfobaeafapbnaaDoor.Seal.Plain
end Go.Proofs.YthfobaeafapbnaaDoor.Seal.Plain
namespace Go.Proofs.YthfobaeafapbnaaDoor.Seal
open Go.RowKit Go.Proofs.YthfobaeafapbnaaDoor.Plain Go.Proofs.YthfobaeafapbnaaDoor.Seal.Plain
section
variable {P : Program} {md : Region.Mode} {ops : Array Oper} {Q : Exit -> Act -> World -> Prop}
theorem two_lat {i j : Nat} {oi oj : Oper} {fuel : Nat} {listed : Array Bool} {a : Act} {w : World} (hoi : ops[i]? = some oi) (hoj : ops[j]? = some oj) (hr : Region.ready md ops listed = [i, j])
  (hi : ∀ K' : Act -> World -> Prop, Shut (∀ a w1, Below w.heap.size w w1 -> wpAnyH P md ops Q (Seq.Lat w1) fuel (listed.setIfInBounds i true) a w1 -> K' a w1) -> if Region.wanted oi (yielded ops a.tmps) = true then Oper.wp P oi a w K' Q else K' (a.put oi.dst undef) w)
  (hj : ∀ K' : Act -> World -> Prop, Shut (∀ a w1, Below w.heap.size w w1 -> wpAnyH P md ops Q (Seq.Lat w1) fuel (listed.setIfInBounds j true) a w1 -> K' a w1) -> if Region.wanted oj (yielded ops a.tmps) = true then Oper.wp P oj a w K' Q else K' (a.put oj.dst undef) w) :
  wpAnyH P md ops Q (Seq.Lat w) (fuel + 1) listed a w := by
 refine wpAnyH_ready hr (by simp) (AllReadyH.cons hoi (fun K' hK => hi K' ?_) (AllReadyH.cons hoj (fun K' hK => hj K' ?_) AllReadyH.nil))
 ·intro a1 w1 hb hn
  exact hK.out a1 w1 hb (fun _ => Seq.into (fun w' hl => hb.trans (hl.mono hb.size)) _ _ _ _ hn)
 ·intro a1 w1 hb hn
  exact hK.out a1 w1 hb (fun _ => Seq.into (fun w' hl => hb.trans (hl.mono hb.size)) _ _ _ _ hn)
end
structure Ks (w x : World) (S base : Nat) (K A : List Int) (v : Value) (n : Nat) : Prop where
 key : x.heap[S]? = some (.cells (u8s K) 23 (0, 0))
 own : x.ownsRow base 5 1 v n (A.map (Value.int .u8))
 bel : Below w.heap.size w x
theorem Ks.on {w x y : World} {S base : Nat} {K A : List Int} {v : Value} {n : Nat} (h : Ks w x S base K A v n) (hb : Below x.heap.size x y) : Ks w y S base K A v n := ⟨row_on h.key hb, own_later h.own hb, below_to h.bel hb⟩
def lenV : Value -> Nat
 | .slice _ n _ => n
 | _ => 0
set_option maxRecDepth 20000 in
set_option maxHeartbeats 1000000 in
theorem rseal_a (K X B C : List Int) (p v : Int) (s : ByteArray) (n : Nat) (hs : s.size = n) (w : World) (hKl : K.length = 32) (hn : n <= 184) (hC : Byt C) (hCl : C.length = n) (hv0 : ¬ v = 0) (hv1 : ¬ v = 18446744073709551615) (hv : 0 <= v /\ v <= 18446744073709551615)
  (gg : n = 160)
  (HCv : Box (∀ x, ∃ c w', (convert 9 63 (.string s)).run Tryd.prog x = .ok (.slice (some ⟨x.heap.size, 0, none⟩) n c) w' /\ Bytes w' (some ⟨x.heap.size, 0, none⟩) n B /\ Below x.heap.size x w'))
  (C1 : Box (∀ x, Calls Tryd.prog 66 #[.int .u32 p, .int .u64 v] x fun e w' => e = .returned (.agg (u8s X)) /\ Below x.heap.size x w'))
  (C2 : Box (∀ x a c, Below w.heap.size w x -> Bytes x a n B -> Calls Tryd.prog 65 #[.agg (u8s K), .int .u32 0, .agg (u8s X), .slice a n c] x fun e w' => ∃ a' c', e = .returned (.tuple #[.slice a' n c', .int .i64 0]) /\ Bytes w' a' n C /\ Below x.heap.size x w')) :
  Calls Tryd.prog 45 #[.agg (u8s K), .int .u32 p, .int .u64 v, .string s] w fun e w' => e = .returned (.tuple #[.string (strOfNums (padTo (bytesOf v 8 ++ C) 192)), .int .i64 0]) /\ Below w.heap.size w w' := by
 obtain ⟨S, hS⟩ : ∃ S, w.heap.size = S := ⟨_, rfl⟩
 have HS : Hid (w.heap.size = S) := hS
 have H0 : Box ((w.alloc (.cells (u8s K) 23)).heap[S]? = some (.cells (u8s K) 23 (0, 0)) /\ Below w.heap.size w (w.alloc (.cells (u8s K) 23))) := ⟨al_at hS, (Below.refl _ _).alloc (Nat.le_refl _) _⟩
 have g0 : (v == 0) = false := by simpa using hv0
 have g1 : (v == 18446744073709551615) = false := by simpa using hv1
 have C0 : Box (∀ x, Calls Tryd.prog 64 #[.int .u64 v, .int .i64 8] x fun e w' => ∃ a' cap', e = .returned (.slice a' 8 cap') /\ Out x w' a' 8 cap' (bytesOf v 8)) := ⟨fun x => rput_any v 8 8 x hv rfl (by omega)⟩
 have g2 : ((n : Int) != 160) = false := by simp; omega
 clear gg
 clear hS hv0 hv1
 go_enter Tryd.func45, Tryd.ntmps45
 go_upto_region 1 with fail
 rw [HS.out]
 generalize w.alloc (.cells (u8s K) 23) = x0 at H0 ⊢
 go_upto_region 6 with (go_at_call 64; refine (C0.out x0).mono ?_; rintro e w1 ⟨a1, c1, rfl, ho⟩; have HK' : Box (Below w.heap.size w w1 /\ Ks w w1 S w.heap.size K (bytesOf v 8) (.slice a1 8 c1) 8) := ⟨below_to H0.out.2 ho.2.2, row_on H0.out.1 ho.2.2, (out_low ho H0.out.2).2.1, below_to H0.out.2 ho.2.2⟩; clear ho)
 have HK := HK'
 clear HK' C0 g0 g1
 go_cut [11] from 12 (fun r wx => ∃ a c, r = .slice a n c /\ Box (Ks w wx S w.heap.size K (bytesOf v 8) (.slice a1 8 c1) 8 /\ Bytes wx a n C))
 case first =>
  refine Seq.begin_any (by kernel_rfl) (fun wd hd => ?_)
  refine Seq.take_lx (i := 0) (v := .agg (u8s K)) rfl (fun w' hLat => exec_load8 23 32 Tryd.underlying23 size32 (.tmp 4) rfl S rfl K hKl (row_on (row_on HK.out.2.key hd) hLat)) ?_
  try simp only [Act.put, pC, pD, pE, pF, pG]
  refine Seq.take_lx (i := 1) (v := ?_) rfl ?_ ?_
  rotate_left
  ·rintro w' -; go_simp <;> with_reducible rfl
  try simp only [Act.put, pC, pD, pE, pF, pG, pH]
  refine Seq.take_lx (i := 2) (v := ?_) rfl ?_ ?_
  rotate_left
  ·rintro w' -; go_simp <;> with_reducible rfl
  try simp only [Act.put, pC, pD, pE, pF, pG, pH]
  refine Seq.take_lx (i := 4) (v := ?_) rfl ?_ ?_
  rotate_left
  ·rintro w' -; go_simp <;> with_reducible rfl
  try simp only [Act.put, pC, pD, pE, pF, pG, pH]
  refine two_lat (i := 3) (j := 5) rfl rfl (by kernel_rfl) (fun KK hK => ?_) (fun KK hK => ?_)
  ·
   rw [if_pos (by rfl)]
   go_simp
   refine Calls.mono (C1.out wd) ?_
   rintro e w4 ⟨rfl, hb4⟩
   have HA : Box (Below w.heap.size w w4 /\ Ks w w4 S w.heap.size K (bytesOf v 8) (.slice a1 8 c1) 8) := ⟨below_to (below_to HK.out.1 hd) hb4, (HK.out.2.on hd).on hb4⟩
   refine hK.out _ _ hb4 ?_
   clear hb4 hK KK
   try simp only [Act.put, pC, pD, pE, pF, pG, pH]
   refine Seq.only_lat (i := 5) rfl (by kernel_rfl) (fun KK hK => ?_)
   rw [if_pos (by rfl)]
   obtain ⟨c5, w5, hcv, hB5, hb5⟩ := HCv.out w4
   go_simp
   have HB : Box (Bytes w5 (some ⟨w4.heap.size, 0, none⟩) n B /\ Below w.heap.size w w5 /\ Ks w w5 S w.heap.size K (bytesOf v 8) (.slice a1 8 c1) 8) := ⟨hB5, below_to HA.out.1 hb5, HA.out.2.on hb5⟩
   refine hK.out _ _ hb5 ?_
   clear hb5 hB5 hcv
   clear hK KK
   try simp only [Act.put, pC, pD, pE, pF, pG, pH]
   refine Seq.only_lat (i := 6) rfl (by kernel_rfl) (fun KK hK => ?_)
   rw [if_pos (by rfl)]
   go_simp
   refine Calls.mono (C2.out w5 _ _ HB.out.2.1 HB.out.1) ?_
   rintro e w6 ⟨a6, c6, rfl, hB6, hb6⟩
   have H6 : Box (Ks w w6 S w.heap.size K (bytesOf v 8) (.slice a1 8 c1) 8 /\ Bytes w6 a6 n C) := ⟨HB.out.2.2.on hb6, hB6⟩
   refine hK.out _ _ hb6 ?_
   clear hb6 hB6
   clear hK KK
   try simp only [Act.put, pC, pD, pE, pF, pG, pH]
   refine Seq.take_lx (i := 7) (v := ?_) rfl ?_ ?_
   rotate_left
   ·rintro w' -; go_simp <;> with_reducible rfl
   try simp only [Act.put, pC, pD, pE, pF, pG, pH]
   refine Seq.take_lx (i := 8) (v := ?_) rfl ?_ ?_
   rotate_left
   ·rintro w' -; go_simp <;> with_reducible rfl
   try simp only [Act.put, pC, pD, pE, pF, pG, pH]
   refine Seq.take_lx (i := 9) (v := ?_) rfl ?_ ?_
   rotate_left
   ·rintro w' -; go_simp <;> with_reducible rfl
   try simp only [Act.put, pC, pD, pE, pF, pG, pH]
   refine Seq.take_lx (i := 10) (v := ?_) rfl ?_ ?_
   rotate_left
   ·rintro w' -; go_simp <;> with_reducible rfl
   try simp only [Act.put, pC, pD, pE, pF, pG, pH]
   refine Seq.take_lx (i := 11) (v := ?_) rfl ?_ ?_
   rotate_left
   ·rintro w' -; go_simp <;> with_reducible rfl
   try simp only [Act.put, pC, pD, pE, pF, pG, pH]
   refine wpAnyH_done (by kernel_rfl) ?_ _
   go_wp2_with fail
   go_meet
   exact ⟨a6, c6, rfl, H6⟩
  ·
   rw [if_pos (by rfl)]
   obtain ⟨c5, w4, hcv, hB5, hb5⟩ := HCv.out wd
   go_simp
   have HA : Box (Bytes w4 (some ⟨wd.heap.size, 0, none⟩) n B /\ Below w.heap.size w w4 /\ Ks w w4 S w.heap.size K (bytesOf v 8) (.slice a1 8 c1) 8) := ⟨hB5, below_to (below_to HK.out.1 hd) hb5, (HK.out.2.on hd).on hb5⟩
   refine hK.out _ _ hb5 ?_
   clear hb5 hB5 hcv hK KK
   try simp only [Act.put, pC, pD, pE, pF, pG, pH]
   refine Seq.only_lat (i := 3) rfl (by kernel_rfl) (fun KK hK => ?_)
   rw [if_pos (by rfl)]
   go_simp
   refine Calls.mono (C1.out w4) ?_
   rintro e w5 ⟨rfl, hb4⟩
   have HB : Box (Bytes w5 (some ⟨wd.heap.size, 0, none⟩) n B /\ Below w.heap.size w w5 /\ Ks w w5 S w.heap.size K (bytesOf v 8) (.slice a1 8 c1) 8) := ⟨HA.out.1.below hb4, below_to HA.out.2.1 hb4, HA.out.2.2.on hb4⟩
   refine hK.out _ _ hb4 ?_
   clear hb4
   clear hK KK
   try simp only [Act.put, pC, pD, pE, pF, pG, pH]
   refine Seq.only_lat (i := 6) rfl (by kernel_rfl) (fun KK hK => ?_)
   rw [if_pos (by rfl)]
   go_simp
   refine Calls.mono (C2.out w5 _ _ HB.out.2.1 HB.out.1) ?_
   rintro e w6 ⟨a6, c6, rfl, hB6, hb6⟩
   have H6 : Box (Ks w w6 S w.heap.size K (bytesOf v 8) (.slice a1 8 c1) 8 /\ Bytes w6 a6 n C) := ⟨HB.out.2.2.on hb6, hB6⟩
   refine hK.out _ _ hb6 ?_
   clear hb6 hB6
   clear hK KK
   try simp only [Act.put, pC, pD, pE, pF, pG, pH]
   refine Seq.take_lx (i := 7) (v := ?_) rfl ?_ ?_
   rotate_left
   ·rintro w' -; go_simp <;> with_reducible rfl
   try simp only [Act.put, pC, pD, pE, pF, pG, pH]
   refine Seq.take_lx (i := 8) (v := ?_) rfl ?_ ?_
   rotate_left
   ·rintro w' -; go_simp <;> with_reducible rfl
   try simp only [Act.put, pC, pD, pE, pF, pG, pH]
   refine Seq.take_lx (i := 9) (v := ?_) rfl ?_ ?_
   rotate_left
   ·rintro w' -; go_simp <;> with_reducible rfl
   try simp only [Act.put, pC, pD, pE, pF, pG, pH]
   refine Seq.take_lx (i := 10) (v := ?_) rfl ?_ ?_
   rotate_left
   ·rintro w' -; go_simp <;> with_reducible rfl
   try simp only [Act.put, pC, pD, pE, pF, pG, pH]
   refine Seq.take_lx (i := 11) (v := ?_) rfl ?_ ?_
   rotate_left
   ·rintro w' -; go_simp <;> with_reducible rfl
   try simp only [Act.put, pC, pD, pE, pF, pG, pH]
   refine wpAnyH_done (by kernel_rfl) ?_ _
   go_wp2_with fail
   go_meet
   exact ⟨a6, c6, rfl, H6⟩
 case rest =>
 obtain ⟨a6, c6, rfl, H6⟩ := hcut
 rename World => x6
 clear HK C1 C2 HCv
 go_wp2_with (refine wpList_app rfl (.tmp 39) (.tmp 40) rfl w.heap.size 8 n c6 _ (bytesOf v 8) C a6 w rfl rfl H6.out.1.own H6.out.2 (by omega) H6.out.1.bel H6.out.1.bel.size ?_; intro v7 w7 H7)
 clear H6
 obtain ⟨A, EA⟩ := named (bytesOf v 8 ++ C)
 have hAl : A.length = 8 + n := by rw [<- EA.out, List.length_append, length_bytesOf, hCl]
 have hAb : Box (Byt A) := ⟨by rw [<- EA.out]; exact byt_app _ _ (bytesOf_bd v 8) hC⟩
 rw [EA.out] at H7
 clear hC hCl hv
 go_loopw [10] (fun r wr => ∃ k l : Nat, l = 8 + n + k /\ l <= 192 /\ Box (wr.ownsRow w.heap.size 5 1 r l ((A ++ List.replicate k 0).map (Value.int .u8)) /\ Below w.heap.size w wr /\ w.heap.size <= wr.heap.size)) (fun r _ => 192 - lenV r)
 case atStart => exact ⟨0, 8 + n, rfl, by omega, by rw [List.replicate_zero, List.append_nil]; exact H7⟩
 case round =>
  clear H7
  obtain ⟨k, l, hl, hlm, HO⟩ := hrel
  have HL : Box (l = 8 + n + k) := ⟨hl⟩
  clear hl
  obtain ⟨ar, cr', hr⟩ := own_form HO.out.1
  subst hr
  by_cases hlt : l < 192
  ·go_wp2_with (refine wpList_app rfl (.tmp 45) (.tmp 46) rfl w.heap.size l 1 1 _ (A ++ List.replicate k 0) [0] (some ⟨wr.heap.size, 0, none⟩) w rfl rfl (HO.out.1.alloc _) (bytes_of_row (X := [0]) (t := 5) (fr := (0, 0)) (byt_zeros 1) (al_at rfl)) (by omega) (HO.out.2.1.alloc HO.out.2.2 _) (by simp; have := HO.out.2.2; omega) ?_; intro v8 w8 H8)
   have H9 : Box (w8.ownsRow w.heap.size 5 1 v8 (l + 1) ((A ++ List.replicate (k + 1) 0).map (Value.int .u8)) /\ Below w.heap.size w w8 /\ w.heap.size <= w8.heap.size) := ⟨by
    have := H8.out.1
    rw [List.append_assoc, <- List.replicate_succ'] at this
    exact this, H8.out.2⟩
   clear H8 HO
   go_roundw
   case rel => exact ⟨k + 1, l + 1, by rw [HL.out]; omega, by omega, H9⟩
   case measure =>
    obtain ⟨a9, c9, rfl⟩ := own_form H9.out.1
    simp [lenV]; omega
  ·have hl2 : l = 192 := by omega
   subst hl2
   have HB := own_bytes HO.out.1 (byt_app _ _ hAb.out (byt_zeros k))
   have hcv := conv_bytes HB cr'
   have EP : Box (A ++ List.replicate k 0 = padTo A 192) := ⟨by
    unfold padTo
    rw [List.take_of_length_le (by omega), hAl]
    congr 2
    have := HL.out
    omega⟩
   rw [EP.out] at hcv
   clear HB
   go_wp2
   go_ret2
   exact ⟨by rw [EA.out]; rfl, HO.out.2.1⟩
set_option maxRecDepth 20000 in
set_option maxHeartbeats 1000000 in
theorem rseal_b (K X B C : List Int) (p v : Int) (s : ByteArray) (n : Nat) (hs : s.size = n) (w : World) (hKl : K.length = 32) (hn : n <= 184) (hC : Byt C) (hCl : C.length = n) (hv0 : ¬ v = 0) (hv1 : ¬ v = 18446744073709551615) (hv : 0 <= v /\ v <= 18446744073709551615)
  (gg : n = 176)
  (HCv : Box (∀ x, ∃ c w', (convert 9 63 (.string s)).run Tryd.prog x = .ok (.slice (some ⟨x.heap.size, 0, none⟩) n c) w' /\ Bytes w' (some ⟨x.heap.size, 0, none⟩) n B /\ Below x.heap.size x w'))
  (C1 : Box (∀ x, Calls Tryd.prog 66 #[.int .u32 p, .int .u64 v] x fun e w' => e = .returned (.agg (u8s X)) /\ Below x.heap.size x w'))
  (C2 : Box (∀ x a c, Below w.heap.size w x -> Bytes x a n B -> Calls Tryd.prog 65 #[.agg (u8s K), .int .u32 0, .agg (u8s X), .slice a n c] x fun e w' => ∃ a' c', e = .returned (.tuple #[.slice a' n c', .int .i64 0]) /\ Bytes w' a' n C /\ Below x.heap.size x w')) :
  Calls Tryd.prog 45 #[.agg (u8s K), .int .u32 p, .int .u64 v, .string s] w fun e w' => e = .returned (.tuple #[.string (strOfNums (padTo (bytesOf v 8 ++ C) 192)), .int .i64 0]) /\ Below w.heap.size w w' := by
 obtain ⟨S, hS⟩ : ∃ S, w.heap.size = S := ⟨_, rfl⟩
 have HS : Hid (w.heap.size = S) := hS
 have H0 : Box ((w.alloc (.cells (u8s K) 23)).heap[S]? = some (.cells (u8s K) 23 (0, 0)) /\ Below w.heap.size w (w.alloc (.cells (u8s K) 23))) := ⟨al_at hS, (Below.refl _ _).alloc (Nat.le_refl _) _⟩
 have g0 : (v == 0) = false := by simpa using hv0
 have g1 : (v == 18446744073709551615) = false := by simpa using hv1
 have C0 : Box (∀ x, Calls Tryd.prog 64 #[.int .u64 v, .int .i64 8] x fun e w' => ∃ a' cap', e = .returned (.slice a' 8 cap') /\ Out x w' a' 8 cap' (bytesOf v 8)) := ⟨fun x => rput_any v 8 8 x hv rfl (by omega)⟩
 have g2 : ((n : Int) != 160) = true := by simp; omega
 have g3 : ((n : Int) != 176) = false := by simp; omega
 clear gg
 clear hS hv0 hv1
 go_enter Tryd.func45, Tryd.ntmps45
 go_upto_region 1 with fail
 rw [HS.out]
 generalize w.alloc (.cells (u8s K) 23) = x0 at H0 ⊢
 go_upto_region 6 with (go_at_call 64; refine (C0.out x0).mono ?_; rintro e w1 ⟨a1, c1, rfl, ho⟩; have HK' : Box (Below w.heap.size w w1 /\ Ks w w1 S w.heap.size K (bytesOf v 8) (.slice a1 8 c1) 8) := ⟨below_to H0.out.2 ho.2.2, row_on H0.out.1 ho.2.2, (out_low ho H0.out.2).2.1, below_to H0.out.2 ho.2.2⟩; clear ho)
 have HK := HK'
 clear HK' C0 g0 g1
 go_cut [11] from 12 (fun r wx => ∃ a c, r = .slice a n c /\ Box (Ks w wx S w.heap.size K (bytesOf v 8) (.slice a1 8 c1) 8 /\ Bytes wx a n C))
 case first =>
  refine Seq.begin_any (by kernel_rfl) (fun wd hd => ?_)
  refine Seq.take_lx (i := 0) (v := .agg (u8s K)) rfl (fun w' hLat => exec_load8 23 32 Tryd.underlying23 size32 (.tmp 4) rfl S rfl K hKl (row_on (row_on HK.out.2.key hd) hLat)) ?_
  try simp only [Act.put, pC, pD, pE, pF, pG]
  refine Seq.take_lx (i := 1) (v := ?_) rfl ?_ ?_
  rotate_left
  ·rintro w' -; go_simp <;> with_reducible rfl
  try simp only [Act.put, pC, pD, pE, pF, pG, pH]
  refine Seq.take_lx (i := 2) (v := ?_) rfl ?_ ?_
  rotate_left
  ·rintro w' -; go_simp <;> with_reducible rfl
  try simp only [Act.put, pC, pD, pE, pF, pG, pH]
  refine Seq.take_lx (i := 4) (v := ?_) rfl ?_ ?_
  rotate_left
  ·rintro w' -; go_simp <;> with_reducible rfl
  try simp only [Act.put, pC, pD, pE, pF, pG, pH]
  refine two_lat (i := 3) (j := 5) rfl rfl (by kernel_rfl) (fun KK hK => ?_) (fun KK hK => ?_)
  ·
   rw [if_pos (by rfl)]
   go_simp
   refine Calls.mono (C1.out wd) ?_
   rintro e w4 ⟨rfl, hb4⟩
   have HA : Box (Below w.heap.size w w4 /\ Ks w w4 S w.heap.size K (bytesOf v 8) (.slice a1 8 c1) 8) := ⟨below_to (below_to HK.out.1 hd) hb4, (HK.out.2.on hd).on hb4⟩
   refine hK.out _ _ hb4 ?_
   clear hb4 hK KK
   try simp only [Act.put, pC, pD, pE, pF, pG, pH]
   refine Seq.only_lat (i := 5) rfl (by kernel_rfl) (fun KK hK => ?_)
   rw [if_pos (by rfl)]
   obtain ⟨c5, w5, hcv, hB5, hb5⟩ := HCv.out w4
   go_simp
   have HB : Box (Bytes w5 (some ⟨w4.heap.size, 0, none⟩) n B /\ Below w.heap.size w w5 /\ Ks w w5 S w.heap.size K (bytesOf v 8) (.slice a1 8 c1) 8) := ⟨hB5, below_to HA.out.1 hb5, HA.out.2.on hb5⟩
   refine hK.out _ _ hb5 ?_
   clear hb5 hB5 hcv
   clear hK KK
   try simp only [Act.put, pC, pD, pE, pF, pG, pH]
   refine Seq.only_lat (i := 6) rfl (by kernel_rfl) (fun KK hK => ?_)
   rw [if_pos (by rfl)]
   go_simp
   refine Calls.mono (C2.out w5 _ _ HB.out.2.1 HB.out.1) ?_
   rintro e w6 ⟨a6, c6, rfl, hB6, hb6⟩
   have H6 : Box (Ks w w6 S w.heap.size K (bytesOf v 8) (.slice a1 8 c1) 8 /\ Bytes w6 a6 n C) := ⟨HB.out.2.2.on hb6, hB6⟩
   refine hK.out _ _ hb6 ?_
   clear hb6 hB6
   clear hK KK
   try simp only [Act.put, pC, pD, pE, pF, pG, pH]
   refine Seq.take_lx (i := 7) (v := ?_) rfl ?_ ?_
   rotate_left
   ·rintro w' -; go_simp <;> with_reducible rfl
   try simp only [Act.put, pC, pD, pE, pF, pG, pH]
   refine Seq.take_lx (i := 8) (v := ?_) rfl ?_ ?_
   rotate_left
   ·rintro w' -; go_simp <;> with_reducible rfl
   try simp only [Act.put, pC, pD, pE, pF, pG, pH]
   refine Seq.take_lx (i := 9) (v := ?_) rfl ?_ ?_
   rotate_left
   ·rintro w' -; go_simp <;> with_reducible rfl
   try simp only [Act.put, pC, pD, pE, pF, pG, pH]
   refine Seq.take_lx (i := 10) (v := ?_) rfl ?_ ?_
   rotate_left
   ·rintro w' -; go_simp <;> with_reducible rfl
   try simp only [Act.put, pC, pD, pE, pF, pG, pH]
   refine Seq.take_lx (i := 11) (v := ?_) rfl ?_ ?_
   rotate_left
   ·rintro w' -; go_simp <;> with_reducible rfl
   try simp only [Act.put, pC, pD, pE, pF, pG, pH]
   refine wpAnyH_done (by kernel_rfl) ?_ _
   go_wp2_with fail
   go_meet
   exact ⟨a6, c6, rfl, H6⟩
  ·
   rw [if_pos (by rfl)]
   obtain ⟨c5, w4, hcv, hB5, hb5⟩ := HCv.out wd
   go_simp
   have HA : Box (Bytes w4 (some ⟨wd.heap.size, 0, none⟩) n B /\ Below w.heap.size w w4 /\ Ks w w4 S w.heap.size K (bytesOf v 8) (.slice a1 8 c1) 8) := ⟨hB5, below_to (below_to HK.out.1 hd) hb5, (HK.out.2.on hd).on hb5⟩
   refine hK.out _ _ hb5 ?_
   clear hb5 hB5 hcv hK KK
   try simp only [Act.put, pC, pD, pE, pF, pG, pH]
   refine Seq.only_lat (i := 3) rfl (by kernel_rfl) (fun KK hK => ?_)
   rw [if_pos (by rfl)]
   go_simp
   refine Calls.mono (C1.out w4) ?_
   rintro e w5 ⟨rfl, hb4⟩
   have HB : Box (Bytes w5 (some ⟨wd.heap.size, 0, none⟩) n B /\ Below w.heap.size w w5 /\ Ks w w5 S w.heap.size K (bytesOf v 8) (.slice a1 8 c1) 8) := ⟨HA.out.1.below hb4, below_to HA.out.2.1 hb4, HA.out.2.2.on hb4⟩
   refine hK.out _ _ hb4 ?_
   clear hb4
   clear hK KK
   try simp only [Act.put, pC, pD, pE, pF, pG, pH]
   refine Seq.only_lat (i := 6) rfl (by kernel_rfl) (fun KK hK => ?_)
   rw [if_pos (by rfl)]
   go_simp
   refine Calls.mono (C2.out w5 _ _ HB.out.2.1 HB.out.1) ?_
   rintro e w6 ⟨a6, c6, rfl, hB6, hb6⟩
   have H6 : Box (Ks w w6 S w.heap.size K (bytesOf v 8) (.slice a1 8 c1) 8 /\ Bytes w6 a6 n C) := ⟨HB.out.2.2.on hb6, hB6⟩
   refine hK.out _ _ hb6 ?_
   clear hb6 hB6
   clear hK KK
   try simp only [Act.put, pC, pD, pE, pF, pG, pH]
   refine Seq.take_lx (i := 7) (v := ?_) rfl ?_ ?_
   rotate_left
   ·rintro w' -; go_simp <;> with_reducible rfl
   try simp only [Act.put, pC, pD, pE, pF, pG, pH]
   refine Seq.take_lx (i := 8) (v := ?_) rfl ?_ ?_
   rotate_left
   ·rintro w' -; go_simp <;> with_reducible rfl
   try simp only [Act.put, pC, pD, pE, pF, pG, pH]
   refine Seq.take_lx (i := 9) (v := ?_) rfl ?_ ?_
   rotate_left
   ·rintro w' -; go_simp <;> with_reducible rfl
   try simp only [Act.put, pC, pD, pE, pF, pG, pH]
   refine Seq.take_lx (i := 10) (v := ?_) rfl ?_ ?_
   rotate_left
   ·rintro w' -; go_simp <;> with_reducible rfl
   try simp only [Act.put, pC, pD, pE, pF, pG, pH]
   refine Seq.take_lx (i := 11) (v := ?_) rfl ?_ ?_
   rotate_left
   ·rintro w' -; go_simp <;> with_reducible rfl
   try simp only [Act.put, pC, pD, pE, pF, pG, pH]
   refine wpAnyH_done (by kernel_rfl) ?_ _
   go_wp2_with fail
   go_meet
   exact ⟨a6, c6, rfl, H6⟩
 case rest =>
 obtain ⟨a6, c6, rfl, H6⟩ := hcut
 rename World => x6
 clear HK C1 C2 HCv
 go_wp2_with (refine wpList_app rfl (.tmp 39) (.tmp 40) rfl w.heap.size 8 n c6 _ (bytesOf v 8) C a6 w rfl rfl H6.out.1.own H6.out.2 (by omega) H6.out.1.bel H6.out.1.bel.size ?_; intro v7 w7 H7)
 clear H6
 obtain ⟨A, EA⟩ := named (bytesOf v 8 ++ C)
 have hAl : A.length = 8 + n := by rw [<- EA.out, List.length_append, length_bytesOf, hCl]
 have hAb : Box (Byt A) := ⟨by rw [<- EA.out]; exact byt_app _ _ (bytesOf_bd v 8) hC⟩
 rw [EA.out] at H7
 clear hC hCl hv
 go_loopw [10] (fun r wr => ∃ k l : Nat, l = 8 + n + k /\ l <= 192 /\ Box (wr.ownsRow w.heap.size 5 1 r l ((A ++ List.replicate k 0).map (Value.int .u8)) /\ Below w.heap.size w wr /\ w.heap.size <= wr.heap.size)) (fun r _ => 192 - lenV r)
 case atStart => exact ⟨0, 8 + n, rfl, by omega, by rw [List.replicate_zero, List.append_nil]; exact H7⟩
 case round =>
  clear H7
  obtain ⟨k, l, hl, hlm, HO⟩ := hrel
  have HL : Box (l = 8 + n + k) := ⟨hl⟩
  clear hl
  obtain ⟨ar, cr', hr⟩ := own_form HO.out.1
  subst hr
  by_cases hlt : l < 192
  ·go_wp2_with (refine wpList_app rfl (.tmp 45) (.tmp 46) rfl w.heap.size l 1 1 _ (A ++ List.replicate k 0) [0] (some ⟨wr.heap.size, 0, none⟩) w rfl rfl (HO.out.1.alloc _) (bytes_of_row (X := [0]) (t := 5) (fr := (0, 0)) (byt_zeros 1) (al_at rfl)) (by omega) (HO.out.2.1.alloc HO.out.2.2 _) (by simp; have := HO.out.2.2; omega) ?_; intro v8 w8 H8)
   have H9 : Box (w8.ownsRow w.heap.size 5 1 v8 (l + 1) ((A ++ List.replicate (k + 1) 0).map (Value.int .u8)) /\ Below w.heap.size w w8 /\ w.heap.size <= w8.heap.size) := ⟨by
    have := H8.out.1
    rw [List.append_assoc, <- List.replicate_succ'] at this
    exact this, H8.out.2⟩
   clear H8 HO
   go_roundw
   case rel => exact ⟨k + 1, l + 1, by rw [HL.out]; omega, by omega, H9⟩
   case measure =>
    obtain ⟨a9, c9, rfl⟩ := own_form H9.out.1
    simp [lenV]; omega
  ·have hl2 : l = 192 := by omega
   subst hl2
   have HB := own_bytes HO.out.1 (byt_app _ _ hAb.out (byt_zeros k))
   have hcv := conv_bytes HB cr'
   have EP : Box (A ++ List.replicate k 0 = padTo A 192) := ⟨by
    unfold padTo
    rw [List.take_of_length_le (by omega), hAl]
    congr 2
    have := HL.out
    omega⟩
   rw [EP.out] at hcv
   clear HB
   go_wp2
   go_ret2
   exact ⟨by rw [EA.out]; rfl, HO.out.2.1⟩
theorem rseal_ok (K B : List Int) (p v : Int) (n : Nat) (w : World) (hKl : K.length = 32) (hKb : Byt K) (hB : Byt B) (hBl : B.length = n) (hp : W32 p) (hv0 : ¬ v = 0) (hv1 : ¬ v = 18446744073709551615) (hv : 0 <= v /\ v <= 18446744073709551615) (hn : n = 160 ∨ n = 176) :
  Calls Tryd.prog 45 #[.agg (u8s K), .int .u32 p, .int .u64 v, .string (strOfNums B)] w fun e w' => e = .returned (.tuple #[.string (strOfNums (sl K p v B)), .int .i64 0]) /\ Below w.heap.size w w' := by
 unfold sl
 rw [hBl]
 have hs : (strOfNums B).size = n := by rw [str_size, hBl]
 have HCv : Box (∀ x, ∃ c w', (convert 9 63 (.string (strOfNums B))).run Tryd.prog x = .ok (.slice (some ⟨x.heap.size, 0, none⟩) n c) w' /\ Bytes w' (some ⟨x.heap.size, 0, none⟩) n B /\ Below x.heap.size x w') := ⟨fun x => by
  have := conv_str x B hB
  rwa [hBl] at this⟩
 have C1 : Box (∀ x, Calls Tryd.prog 66 #[.int .u32 p, .int .u64 v] x fun e w' => e = .returned (.agg (u8s (non p v))) /\ Below x.heap.size x w') := ⟨fun x => rnonce_any p v x hp hv⟩
 have C2 : Box (∀ x a c, Below w.heap.size w x -> Bytes x a n B -> Calls Tryd.prog 65 #[.agg (u8s K), .int .u32 0, .agg (u8s (non p v)), .slice a n c] x fun e w' => ∃ a' c', e = .returned (.tuple #[.slice a' n c', .int .i64 0]) /\ Bytes w' a' n (cr K 0 (non p v) B n) /\ Below x.heap.size x w') := ⟨fun x a c hx hB => rcrypt_ok a n c K (non p v) B 0 x hKb hKl (byt_non p v) (length_non p v) ⟨by omega, by omega⟩ hB (by omega) (by omega)⟩
 rcases hn with hn | hn
 ·exact rseal_a K (non p v) B _ p v _ n hs w hKl (by omega) (byt_cr _ _ _ _ _) (length_cr _ _ _ _ _) hv0 hv1 hv hn HCv C1 C2
 ·exact rseal_b K (non p v) B _ p v _ n hs w hKl (by omega) (byt_cr _ _ _ _ _) (length_cr _ _ _ _ _) hv0 hv1 hv hn HCv C1 C2
end Go.Proofs.YthfobaeafapbnaaDoor.Seal
