/-
  What the reference's Mac answers: HMAC of SHA-256, for all keys and messages.
-/
import Derived.Test.YtanpbceppjpblabDoorK7
namespace Go.Proofs.YtanpbceppjpblabDoor
set_option linter.unusedVariables false
open Go.RowKit Plain

/-- The result's block still holds noughts, and nothing that was there has turned. -/
def RS (w x : World) : Prop := x.heap[w.heap.size]? = some (.cells (fil8 [] 32) 25 (0, 0)) ∧ Below w.heap.size w x
theorem RS.on {w x y : World} (h : RS w x) (hb : Below x.heap.size x y) : RS w y :=
  ⟨(hb.block _ (Array.getElem?_eq_some_iff.1 h.1).1).trans h.1, h.2.trans (hb.mono h.2.size)⟩
theorem rmac_one {w w0 w1 : World} {a1 : Option Addr} {n c1 : Nat} {K : List Int} (h0 : w0.heap[w.heap.size]? = some (.cells (fil8 [] 32) 25 (0, 0)) ∧ Below w.heap.size w w0)
    (h : w1.ownsRow (w.heap.size + 1) 5 1 (.slice a1 n c1) n (([] ++ K).map (Value.int .u8)) ∧ Below (w.heap.size + 1) w0 w1 ∧ w.heap.size + 1 ≤ w1.heap.size) (hK : Byt K) : Box (RS w w1 ∧ Bytes w1 a1 n K ∧ Below w.heap.size w w1) := by
  have hb : Below w.heap.size w w1 := h0.2.trans (h.2.1.mono (Nat.le_succ _))
  exact ⟨⟨(h.2.1.block _ (Nat.lt_succ_self _)).trans h0.1, hb⟩, own_bytes h.1 hK, hb⟩
theorem rmac_app {x w3 w4 : World} {a3 a4 : Option Addr} {n m c3 c4 : Nat} {A B : List Int} {R : Prop} (h : w4.ownsRow x.heap.size 5 1 (.slice a4 m c4) m ((A ++ B).map (Value.int .u8)) ∧ Below x.heap.size x w4 ∧ x.heap.size ≤ w4.heap.size)
    (k : w3.ownsRow x.heap.size 5 1 (.slice a3 n c3) n (A.map (Value.int .u8)) ∧ Below x.heap.size x w3 ∧ x.heap.size ≤ w3.heap.size ∧ R) (hB : Byt (A ++ B)) : Box (Bytes w4 a4 m (A ++ B) ∧ Below x.heap.size x w4) :=
  ⟨own_bytes h.1 hB, h.2.1⟩

set_option maxRecDepth 20000 in
set_option maxHeartbeats 1000000 in
theorem rmac_short (a b : Option Addr) (la ca lb cb : Nat) (K M : List Int) (w : World) (ha : Bytes w a la K) (hb : Bytes w b lb M) (hla : la ≤ 100000) (hlb : lb ≤ 100000) (h : la ≤ 64) :
    Calls Tryd.prog 9 #[.slice a la ca, .slice b lb cb] w fun e w' => e = .returned (.agg (u8s (mac K M))) ∧ Below w.heap.size w w' := by
  have hKl := ha.1
  have hKb := ha.2.1
  have hMl := hb.1
  have hMb := hb.2.1
  obtain ⟨P, HPK⟩ : ∃ P, Box (keyP K = P) := named _
  have hPl : P.length = 64 := by rw [← HPK.out]; exact length_keyP K
  obtain ⟨X1, HX1⟩ : ∃ X, Box (sha (ovr P 54 ++ M) = X) := named _
  have hX1l : X1.length = 32 := by rw [← HX1.out]; exact length_sha _
  have hX1b : Byt X1 := by rw [← HX1.out]; exact byt_sha _
  obtain ⟨X2, HX2⟩ : ∃ X, Box (sha (ovr P 92 ++ X1) = X) := named _
  have hX2s : (u8s X2).size = 32 := by rw [← HX2.out, size_u8s]; exact length_sha _
  have HM : Box (mac K M = X2) := ⟨by rw [mac, HPK.out, HX1.out, HX2.out]⟩
  have HT : Box (∀ x, Below w.heap.size w x → Bytes x a la K ∧ Bytes x b lb M) := ⟨fun x hx => ⟨ha.below hx, hb.below hx⟩⟩
  have HA : Box (∀ o : Obj, (w.alloc o).heap[w.heap.size]? = some o ∧ Below w.heap.size w (w.alloc o)) := ⟨fun o => ⟨al_at rfl, (Below.refl _ _).alloc (Nat.le_refl _) _⟩⟩
  have HO1 : Box (∀ a' c' x, Bytes x a' (64 + lb) (ovr P 54 ++ M) → Calls Tryd.prog 13 #[.slice a' (64 + lb) c'] x fun e w' => e = .returned (.agg (u8s X1)) ∧ Below x.heap.size x w') := ⟨fun a' c' x hx => by rw [← HX1.out]; exact rof_any a' (64 + lb) c' _ x hx (by omega)⟩
  have HO2 : Box (∀ a' c' x, Bytes x a' (64 + 32) (ovr P 92 ++ X1) → Calls Tryd.prog 13 #[.slice a' (64 + 32) c'] x fun e w' => e = .returned (.agg (u8s X2)) ∧ Below x.heap.size x w') := ⟨fun a' c' x hx => by rw [← HX2.out]; exact rof_any a' (64 + 32) c' _ x hx (by omega)⟩
  have HP : Box (pad64 K = P) := ⟨by rw [← HPK.out, keyP, if_neg (by omega)]⟩
  have hkl : la ≤ 64 := by omega
  have d1 : ¬ 64 < (la : Int) := by omega
  clear h
  clear ha hb
  go_enter Tryd.func9, Tryd.ntmps9
  go_wp2_with (first
    | (refine wpList_store_row rfl 25 (.tmp 4) (.tmp 32) rfl w.heap.size (u8s X2) rfl rfl 25 (fil8 [] 32) H9.out.1 (by rw [hX2s]; kernel_rfl) (by rw [hX2s]; rfl) (all_u8s X2) ?_)
    | (go_at_call 13; refine Calls.mono (HO2.out a8 c8 w8 H8.out.1) ?_; rintro e w9 ⟨rfl, hb9⟩; have H9 : Box (RS w w9) := ⟨RS.on (RS.on H6.out.1 H8.out.2) hb9⟩; clear hb9)
    | (at_builtin; refine wpList_app rfl (.tmp 28) (.tmp 29) rfl z6.heap.size 64 32 32 (.slice a7 64 c7) (ovr P 92) X1 (some ⟨w5.heap.size, 0, none⟩) z6 rfl rfl H7.out.1 (H7.out.2.2.2) (by omega) H7.out.2.1 H7.out.2.2.1 ?_; intro v8 w8 H8'; obtain ⟨a8, c8, hv8⟩ := own_form H8'.out.1; subst hv8; have H8 : Box (Bytes w8 a8 (64 + 32) (ovr P 92 ++ X1) ∧ Below z6.heap.size z6 w8) := rmac_app H8'.out H7.out (byt_app _ _ (byt_ovr P 92) hX1b); clear H8')
    | (go_at_call 17; refine Calls.mono (rover_any a1 la c1 K 92 z6 H6.out.2.1 hkl (by omega)) ?_; rintro e w7 ⟨a7, c7, rfl, ho7, hb7, hs7⟩; have H7 : Box (w7.ownsRow z6.heap.size 5 1 (.slice a7 64 c7) 64 ((ovr P 92).map (Value.int .u8)) ∧ Below z6.heap.size z6 w7 ∧ z6.heap.size ≤ w7.heap.size ∧ Bytes w7 (some ⟨w5.heap.size, 0, none⟩) 32 X1) := ⟨by rw [← HP.out]; exact ho7, hb7, hs7, H6.out.2.2.below hb7⟩; clear ho7 hb7 hs7)
    | (refine wpList_new25 _ w5 [] X1 hX1l (show Way w5 w5 [] from ⟨Stand.nil _, Below.refl _ _⟩) ?old ?hold rfl (.tmp 8) (.tmp 25) rfl rfl rfl ?hv ?_; (case hv => rfl); (case hold => rfl); intro z6 H6'; have H6 : Box (RS w z6 ∧ Bytes z6 a1 la K ∧ Bytes z6 (some ⟨w5.heap.size, 0, none⟩) 32 X1) := ⟨RS.on H5.out.1 H6'.out.2, H5.out.2.below H6'.out.2, H6'.out.1.bytes (List.mem_singleton.2 rfl) hX1b⟩; clear H6')
    | (go_at_call 13; refine Calls.mono (HO1.out a4 c4 w4 H4.out.1) ?_; rintro e w5 ⟨rfl, hb5⟩; have H5 : Box (RS w w5 ∧ Bytes w5 a1 la K) := ⟨RS.on (RS.on H1.out.1 H4.out.2) hb5, ((H1.out.2.1).below H4.out.2).below hb5⟩; clear hb5)
    | (at_builtin; refine wpList_app rfl (.tmp 21) (.tmp 22) rfl w1.heap.size 64 lb cb (.slice a3 64 c3) (ovr P 54) M b w1 rfl rfl H3.out.1 (H3.out.2.2.2) (by omega) H3.out.2.1 H3.out.2.2.1 ?_; intro v4 w4 H4'; obtain ⟨a4, c4, hv4⟩ := own_form H4'.out.1; subst hv4; have H4 : Box (Bytes w4 a4 (64 + lb) (ovr P 54 ++ M) ∧ Below w1.heap.size w1 w4) := rmac_app H4'.out H3.out (byt_app _ _ (byt_ovr P 54) hMb); clear H4')
    | (go_at_call 17; refine Calls.mono (rover_any a1 la c1 K 54 w1 (H1.out.2.1) hkl (by omega)) ?_; rintro e w3 ⟨a3, c3, rfl, ho3, hb3, hs3⟩; have H3 : Box (w3.ownsRow w1.heap.size 5 1 (.slice a3 64 c3) 64 ((ovr P 54).map (Value.int .u8)) ∧ Below w1.heap.size w1 w3 ∧ w1.heap.size ≤ w3.heap.size ∧ Bytes w3 b lb M) := ⟨by rw [← HP.out]; exact ho3, hb3, hs3, (HT.out w3 (RS.on H1.out.1 hb3).2).2⟩; clear ho3 hb3 hs3)
    | (at_builtin; refine wpList_app rfl (.tmp 10) (.tmp 11) rfl (w.heap.size + 1) 0 la ca (.slice none 0 0) [] K a _ rfl rfl (World.ownsRow_nil _ _ _ _) (HT.out _ (HA.out _).2).1 (by omega) (Below.refl _ _) (by simp) ?_; intro v1 w1 H1'; rw [Nat.zero_add] at H1'; obtain ⟨a1, c1, hv1⟩ := own_form H1'.out.1; subst hv1; have H1 : Box (RS w w1 ∧ Bytes w1 a1 la K ∧ Below w.heap.size w w1) := rmac_one (HA.out _) H1'.out hKb; clear H1'))
  (try simp only [Exit.inBlock, Exit.then])
  refine bodyPost_ret (results_cell_row (p := 4) (ty := 25) rfl _ _ w.heap.size 25 (u8s X2) (0, 0) _ rfl (setRow_heap _ _ _ _ _ _ H9.out.1) Tryd.underlying25 rfl (by rw [hX2s]; kernel_rfl)) rfl ?_
  exact ⟨by rw [HM.out], below_setRow H9.out.2 (Nat.le_refl _) _⟩

set_option maxRecDepth 20000 in
set_option maxHeartbeats 1000000 in
theorem rmac_long (a b : Option Addr) (la ca lb cb : Nat) (K M : List Int) (w : World) (ha : Bytes w a la K) (hb : Bytes w b lb M) (hla : la ≤ 100000) (hlb : lb ≤ 100000) (h : 64 < la) :
    Calls Tryd.prog 9 #[.slice a la ca, .slice b lb cb] w fun e w' => e = .returned (.agg (u8s (mac K M))) ∧ Below w.heap.size w w' := by
  have hKl := ha.1
  have hKb := ha.2.1
  have hMl := hb.1
  have hMb := hb.2.1
  obtain ⟨P, HPK⟩ : ∃ P, Box (keyP K = P) := named _
  have hPl : P.length = 64 := by rw [← HPK.out]; exact length_keyP K
  obtain ⟨X1, HX1⟩ : ∃ X, Box (sha (ovr P 54 ++ M) = X) := named _
  have hX1l : X1.length = 32 := by rw [← HX1.out]; exact length_sha _
  have hX1b : Byt X1 := by rw [← HX1.out]; exact byt_sha _
  obtain ⟨X2, HX2⟩ : ∃ X, Box (sha (ovr P 92 ++ X1) = X) := named _
  have hX2s : (u8s X2).size = 32 := by rw [← HX2.out, size_u8s]; exact length_sha _
  have HM : Box (mac K M = X2) := ⟨by rw [mac, HPK.out, HX1.out, HX2.out]⟩
  have HT : Box (∀ x, Below w.heap.size w x → Bytes x a la K ∧ Bytes x b lb M) := ⟨fun x hx => ⟨ha.below hx, hb.below hx⟩⟩
  have HA : Box (∀ o : Obj, (w.alloc o).heap[w.heap.size]? = some o ∧ Below w.heap.size w (w.alloc o)) := ⟨fun o => ⟨al_at rfl, (Below.refl _ _).alloc (Nat.le_refl _) _⟩⟩
  have HO1 : Box (∀ a' c' x, Bytes x a' (64 + lb) (ovr P 54 ++ M) → Calls Tryd.prog 13 #[.slice a' (64 + lb) c'] x fun e w' => e = .returned (.agg (u8s X1)) ∧ Below x.heap.size x w') := ⟨fun a' c' x hx => by rw [← HX1.out]; exact rof_any a' (64 + lb) c' _ x hx (by omega)⟩
  have HO2 : Box (∀ a' c' x, Bytes x a' (64 + 32) (ovr P 92 ++ X1) → Calls Tryd.prog 13 #[.slice a' (64 + 32) c'] x fun e w' => e = .returned (.agg (u8s X2)) ∧ Below x.heap.size x w') := ⟨fun a' c' x hx => by rw [← HX2.out]; exact rof_any a' (64 + 32) c' _ x hx (by omega)⟩
  obtain ⟨D, HD⟩ : ∃ D, Box (sha K = D) := named _
  have hDl : D.length = 32 := by rw [← HD.out]; exact length_sha K
  have hDb : Byt D := by rw [← HD.out]; exact byt_sha K
  have HP : Box (pad64 D = P) := ⟨by rw [← HPK.out, keyP, if_pos (by omega), HD.out]⟩
  have HOD : Box (∀ x, Below w.heap.size w x → Calls Tryd.prog 13 #[.slice a la ca] x fun e w' => e = .returned (.agg (u8s D)) ∧ Below x.heap.size x w') := ⟨fun x hx => by rw [← HD.out]; exact rof_any a la ca K x (HT.out x hx).1 (by omega)⟩
  have hkl : 32 ≤ 64 := by omega
  have d1 : 64 < (la : Int) := by omega
  clear h
  clear ha hb
  go_enter Tryd.func9, Tryd.ntmps9
  go_wp2_with (first
    | (refine wpList_store_row rfl 25 (.tmp 4) (.tmp 32) rfl w.heap.size (u8s X2) rfl rfl 25 (fil8 [] 32) H9.out.1 (by rw [hX2s]; kernel_rfl) (by rw [hX2s]; rfl) (all_u8s X2) ?_)
    | (go_at_call 13; refine Calls.mono (HO2.out a8 c8 w8 H8.out.1) ?_; rintro e w9 ⟨rfl, hb9⟩; have H9 : Box (RS w w9) := ⟨RS.on (RS.on H6.out.1 H8.out.2) hb9⟩; clear hb9)
    | (at_builtin; refine wpList_app rfl (.tmp 28) (.tmp 29) rfl z6.heap.size 64 32 32 (.slice a7 64 c7) (ovr P 92) X1 (some ⟨w5.heap.size, 0, none⟩) z6 rfl rfl H7.out.1 (H7.out.2.2.2) (by omega) H7.out.2.1 H7.out.2.2.1 ?_; intro v8 w8 H8'; obtain ⟨a8, c8, hv8⟩ := own_form H8'.out.1; subst hv8; have H8 : Box (Bytes w8 a8 (64 + 32) (ovr P 92 ++ X1) ∧ Below z6.heap.size z6 w8) := rmac_app H8'.out H7.out (byt_app _ _ (byt_ovr P 92) hX1b); clear H8')
    | (go_at_call 17; refine Calls.mono (rover_any (some ⟨w2.heap.size, 0, none⟩) 32 32 D 92 z6 H6.out.2.1 hkl (by omega)) ?_; rintro e w7 ⟨a7, c7, rfl, ho7, hb7, hs7⟩; have H7 : Box (w7.ownsRow z6.heap.size 5 1 (.slice a7 64 c7) 64 ((ovr P 92).map (Value.int .u8)) ∧ Below z6.heap.size z6 w7 ∧ z6.heap.size ≤ w7.heap.size ∧ Bytes w7 (some ⟨w5.heap.size, 0, none⟩) 32 X1) := ⟨by rw [← HP.out]; exact ho7, hb7, hs7, H6.out.2.2.below hb7⟩; clear ho7 hb7 hs7)
    | (refine wpList_new25 _ w5 [] X1 hX1l (show Way w5 w5 [] from ⟨Stand.nil _, Below.refl _ _⟩) ?old ?hold rfl (.tmp 8) (.tmp 25) rfl rfl rfl ?hv ?_; (case hv => rfl); (case hold => rfl); intro z6 H6'; have H6 : Box (RS w z6 ∧ Bytes z6 (some ⟨w2.heap.size, 0, none⟩) 32 D ∧ Bytes z6 (some ⟨w5.heap.size, 0, none⟩) 32 X1) := ⟨RS.on H5.out.1 H6'.out.2, H5.out.2.below H6'.out.2, H6'.out.1.bytes (List.mem_singleton.2 rfl) hX1b⟩; clear H6')
    | (go_at_call 13; refine Calls.mono (HO1.out a4 c4 w4 H4.out.1) ?_; rintro e w5 ⟨rfl, hb5⟩; have H5 : Box (RS w w5 ∧ Bytes w5 (some ⟨w2.heap.size, 0, none⟩) 32 D) := ⟨RS.on (RS.on H2.out.1 H4.out.2) hb5, ((H2.out.2).below H4.out.2).below hb5⟩; clear hb5)
    | (at_builtin; refine wpList_app rfl (.tmp 21) (.tmp 22) rfl z2.heap.size 64 lb cb (.slice a3 64 c3) (ovr P 54) M b z2 rfl rfl H3.out.1 (H3.out.2.2.2) (by omega) H3.out.2.1 H3.out.2.2.1 ?_; intro v4 w4 H4'; obtain ⟨a4, c4, hv4⟩ := own_form H4'.out.1; subst hv4; have H4 : Box (Bytes w4 a4 (64 + lb) (ovr P 54 ++ M) ∧ Below z2.heap.size z2 w4) := rmac_app H4'.out H3.out (byt_app _ _ (byt_ovr P 54) hMb); clear H4')
    | (go_at_call 17; refine Calls.mono (rover_any (some ⟨w2.heap.size, 0, none⟩) 32 32 D 54 z2 (H2.out.2) hkl (by omega)) ?_; rintro e w3 ⟨a3, c3, rfl, ho3, hb3, hs3⟩; have H3 : Box (w3.ownsRow z2.heap.size 5 1 (.slice a3 64 c3) 64 ((ovr P 54).map (Value.int .u8)) ∧ Below z2.heap.size z2 w3 ∧ z2.heap.size ≤ w3.heap.size ∧ Bytes w3 b lb M) := ⟨by rw [← HP.out]; exact ho3, hb3, hs3, (HT.out w3 (RS.on H2.out.1 hb3).2).2⟩; clear ho3 hb3 hs3)
    | (refine wpList_new25 _ w2 [] D hDl (show Way w2 w2 [] from ⟨Stand.nil _, Below.refl _ _⟩) ?old ?hold rfl (.tmp 6) (.tmp 17) rfl rfl rfl ?hv ?_; (case hv => rfl); (case hold => rfl); intro z2 H2'; have H2 : Box (RS w z2 ∧ Bytes z2 (some ⟨w2.heap.size, 0, none⟩) 32 D) := ⟨RS.on HR2.out H2'.out.2, H2'.out.1.bytes (List.mem_singleton.2 rfl) hDb⟩; clear H2')
    | (go_at_call 13; refine Calls.mono (HOD.out w1 H1.out.2.2) ?_; rintro e w2 ⟨rfl, hb2⟩; have HR2 : Box (RS w w2) := ⟨RS.on H1.out.1 hb2⟩; clear hb2)
    | (at_builtin; refine wpList_app rfl (.tmp 10) (.tmp 11) rfl (w.heap.size + 1) 0 la ca (.slice none 0 0) [] K a _ rfl rfl (World.ownsRow_nil _ _ _ _) (HT.out _ (HA.out _).2).1 (by omega) (Below.refl _ _) (by simp) ?_; intro v1 w1 H1'; rw [Nat.zero_add] at H1'; obtain ⟨a1, c1, hv1⟩ := own_form H1'.out.1; subst hv1; have H1 : Box (RS w w1 ∧ Bytes w1 a1 la K ∧ Below w.heap.size w w1) := rmac_one (HA.out _) H1'.out hKb; clear H1'))
  (try simp only [Exit.inBlock, Exit.then])
  refine bodyPost_ret (results_cell_row (p := 4) (ty := 25) rfl _ _ w.heap.size 25 (u8s X2) (0, 0) _ rfl (setRow_heap _ _ _ _ _ _ H9.out.1) Tryd.underlying25 rfl (by rw [hX2s]; kernel_rfl)) rfl ?_
  exact ⟨by rw [HM.out], below_setRow H9.out.2 (Nat.le_refl _) _⟩

theorem rmac_any (a b : Option Addr) (la ca lb cb : Nat) (K M : List Int) (w : World) (ha : Bytes w a la K) (hb : Bytes w b lb M) (hla : la ≤ 100000) (hlb : lb ≤ 100000) :
    Calls Tryd.prog 9 #[.slice a la ca, .slice b lb cb] w fun e w' => e = .returned (.agg (u8s (mac K M))) ∧ Below w.heap.size w w' := by
  by_cases h : la ≤ 64
  · exact rmac_short a b la ca lb cb K M w ha hb hla hlb h
  · exact rmac_long a b la ca lb cb K M w ha hb hla hlb (by omega)
end Go.Proofs.YtanpbceppjpblabDoor
