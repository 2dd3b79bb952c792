/-
  What the Go function Mac of package keys answers: HMAC of SHA-256, for all keys and messages.
-/
import Derived.Test.YtanpbceppjpblabDoorK2
namespace Go.Proofs.YtanpbceppjpblabDoor
set_option linter.unusedVariables false
open Go.RowKit Plain

theorem wpList_lay64 {ops : Array Oper} {rest : List Oper} {o : Oper} {a : Act} {w : World} {Q : Exit → Act → World → Prop} (X : List Int) (hX : (u8s X).size = 64) (hgd : o.guard = none) (x y : Operand) (ho : o.op = .store 38 x y)
    (g : Nat) (old : Array Value) (hx : a.eval x = .pointer (some ⟨g, 0, none⟩)) (hy : a.eval y = .agg (u8s X)) (hg : w.heap[g]? = some (.cells old 38 (0, 0))) (hold : old.size = 64) (B : Nat) (w0 : World) (hB : Below B w0 w) (hBg : B ≤ g)
    (h : ∀ w', Hid (w'.heap[g]? = some (.cells (u8s X) 38 (0, 0)) ∧ Below B w0 w' ∧ ∀ k, k ≠ g → w'.heap[k]? = w.heap[k]?) → wpList Tryd.prog ops Q rest (a.put o.dst undef) w') : wpList Tryd.prog ops Q (o :: rest) a w := by
  refine wpList_store_row hgd 38 x y ho g (u8s X) hx hy 38 old hg (by rw [hX]; kernel_rfl) (by rw [hX]; exact hold) (all_u8s X) (h _ ⟨setRow_heap _ _ _ _ _ _ hg, below_setRow hB hBg _, fun k hk => setRow_other _ _ _ _ hk⟩)
/-- What the blocks of Mac hold: its result, still noughts, and the key. -/
def MS (w x : World) (S G : Nat) (P : List Int) : Prop := x.heap[S]? = some (.cells (fil8 [] 32) 25 (0, 0)) ∧ x.heap[G]? = some (.cells (u8s P) 38 (0, 0)) ∧ Below S w x
theorem MS.on {w x y : World} {S G : Nat} {P : List Int} (h : MS w x S G P) (hb : Below x.heap.size x y) : MS w y S G P := by
  have l1 := (Array.getElem?_eq_some_iff.1 h.1).1
  have l2 := (Array.getElem?_eq_some_iff.1 h.2.1).1
  exact ⟨(hb.block _ l1).trans h.1, (hb.block _ l2).trans h.2.1, h.2.2.trans (hb.mono (by omega))⟩
theorem mac_two {w w1 z : World} {P : List Int} {o : Obj} (h1 : w1.heap[w.heap.size]? = some (.cells (fil8 [] 32) 25 (0, 0)) ∧ Below w.heap.size w w1)
    (hz : z.heap[w1.heap.size]? = some (.cells (u8s P) 38 (0, 0)) ∧ Below w1.heap.size w1 z ∧ ∀ k, k ≠ w1.heap.size → z.heap[k]? = (w1.alloc o).heap[k]?) : Box (MS w z w.heap.size w1.heap.size P) :=
  ⟨(hz.2.1.block _ (Array.getElem?_eq_some_iff.1 h1.1).1).trans h1.1, hz.1, h1.2.trans (hz.2.1.mono h1.2.size)⟩
theorem mac_five {w w4 z : World} {S G : Nat} {P X : List Int} (h : MS w w4 S G P) (hz : Way w4 z [(w4.heap.size, X)]) : Box (MS w z.drew S G P ∧ Stand z.drew [(w4.heap.size, X)]) :=
  ⟨⟨(h.on hz.2).1, (h.on hz.2).2.1, (h.on hz.2).2.2.drew⟩, hz.1⟩
theorem Stand.bytes {x : World} {g : Nat} {X : List Int} {l : List (Nat × List Int)} (h : Stand x l) (hm : (g, X) ∈ l) (hX : Byt X) : Bytes x (some ⟨g, 0, none⟩) 32 X := by
  have := bytes_of_row hX (h _ hm).2
  rwa [(h _ hm).1] at this
theorem mac_six {w z w6 : World} {S G g O : Nat} {P X A : List Int} (h : MS w z S G P ∧ Stand z [(O, X)]) (hB : Bytes w6 (some ⟨g, 0, none⟩) 64 A) (hb : Below z.heap.size z w6) :
    Box (MS w w6 S G P ∧ (Byt X → ∀ p ∈ ([⟨some ⟨g, 0, none⟩, 64, 64, A⟩, ⟨some ⟨O, 0, none⟩, 32, 32, X⟩] : List Pc), p.ok w6)) := by
  refine ⟨h.1.on hb, fun hX p hp => ?_⟩
  simp only [List.mem_cons, List.not_mem_nil, or_false] at hp
  rcases hp with rfl | rfl
  · exact ⟨hB, Nat.le_refl _, by show (64 : Nat) ≤ _; omega⟩
  · exact ⟨(h.2.below hb).bytes (List.mem_singleton.2 rfl) hX, Nat.le_refl _, by show (32 : Nat) ≤ _; omega⟩
theorem mac_hp {x : World} {g : Nat} {A : List Int} {q : Pc} (hB : Bytes x (some ⟨g, 0, none⟩) 64 A) (hq : q.ok x) : ∀ p ∈ ([⟨some ⟨g, 0, none⟩, 64, 64, A⟩, q] : List Pc), p.ok x := by
  intro p hp
  simp only [List.mem_cons, List.not_mem_nil, or_false] at hp
  rcases hp with rfl | rfl
  · exact ⟨hB, Nat.le_refl _, by show (64 : Nat) ≤ _; omega⟩
  · exact hq
theorem wp_store_row25 {o : Oper} {a : Act} {w : World} {K : Act → World → Prop} {Q : Exit → Act → World → Prop} (x y : Operand) (ho : o.op = .store 25 x y) (g : Nat) (X : List Int) (hX : X.length = 32)
    (hx : a.eval x = .pointer (some ⟨g, 0, none⟩)) (hy : a.eval y = .agg (u8s X)) (hg : w.heap[g]? = some (.cells (fil8 [] 32) 25 (0, 0))) (h : K (a.put o.dst undef) (w.setRow g (u8s X))) : o.wp Tryd.prog a w K Q := by
  have hs : (u8s X).size = 32 := by rw [size_u8s, hX]
  exact wp_store_row 25 x y ho g (u8s X) hx hy 25 (fil8 [] 32) hg (by rw [hs]; kernel_rfl) (by rw [hs]; rfl) (all_u8s X) h

set_option maxRecDepth 20000 in
set_option maxHeartbeats 1000000 in
theorem mac_any (a b : Option Addr) (la ca lb cb : Nat) (K M : List Int) (w : World) (hT : Tabs w) (ha : (⟨a, la, ca, K⟩ : Pc).ok w) (hb : (⟨b, lb, cb, M⟩ : Pc).ok w) (hla : la ≤ 100000) (hlb : lb ≤ 100000) :
    Calls Tryd.prog 8 #[.slice a la ca, .slice b lb cb] w fun e w' => e = .returned (.agg (u8s (mac K M))) ∧ Below w.heap.size w w' := by
  obtain ⟨P, HP⟩ : ∃ P, Box (keyP K = P) := ⟨_, ⟨rfl⟩⟩
  have hPl : P.length = 64 := by rw [← HP.out]; exact length_keyP K
  have hPb : Byt P := by rw [← HP.out]; exact byt_keyP K ha.1.2.1
  have hPs : (u8s P).size = 64 := by rw [size_u8s, hPl]
  have hMl : M.length = lb := hb.1.1
  obtain ⟨X1, HX1⟩ : ∃ X, Box (sha (ovr P 54 ++ M) = X) := ⟨_, ⟨rfl⟩⟩
  have hX1l : X1.length = 32 := by rw [← HX1.out]; exact length_sha _
  have hX1b : Byt X1 := by rw [← HX1.out]; exact byt_sha _
  obtain ⟨X2, HX2⟩ : ∃ X, Box (sha (ovr P 92 ++ X1) = X) := ⟨_, ⟨rfl⟩⟩
  have hX2l : X2.length = 32 := by rw [← HX2.out]; exact length_sha _
  have HM : Box (mac K M = X2) := ⟨by rw [mac, HP.out, HX1.out, HX2.out]⟩
  have HT : Box (∀ x, Below w.heap.size w x → Tabs x ∧ (⟨a, la, ca, K⟩ : Pc).ok x ∧ (⟨b, lb, cb, M⟩ : Pc).ok x) := ⟨fun x hx => ⟨hT.below hx, ha.below hx, hb.below hx⟩⟩
  have HZ32 : Hid (fil8 [] 32 = #[.int .u8 0, .int .u8 0, .int .u8 0, .int .u8 0, .int .u8 0, .int .u8 0, .int .u8 0, .int .u8 0, .int .u8 0, .int .u8 0, .int .u8 0, .int .u8 0, .int .u8 0, .int .u8 0, .int .u8 0, .int .u8 0, .int .u8 0, .int .u8 0, .int .u8 0, .int .u8 0, .int .u8 0, .int .u8 0, .int .u8 0, .int .u8 0, .int .u8 0, .int .u8 0, .int .u8 0, .int .u8 0, .int .u8 0, .int .u8 0, .int .u8 0, .int .u8 0]) := rfl
  have HA : Box (∀ o : Obj, (w.alloc o).heap[w.heap.size]? = some o ∧ Below w.heap.size w (w.alloc o)) := ⟨fun o => ⟨al_at rfl, (Below.refl _ _).alloc (Nat.le_refl _) _⟩⟩
  have HWH : Box (∀ x, Below w.heap.size w x → Calls Tryd.prog 14 #[.slice a la ca] x fun e w' => e = .returned (.agg (u8s P)) ∧ Below x.heap.size x w') := ⟨fun x hx => by rw [← HP.out]; exact whole_any a la ca K x (HT.out x hx).1 (HT.out x hx).2.1 (by omega)⟩
  have hmf : ∀ (fn : Fn) (first cap : Array Value) (w : World), (Instr.makeFunc fn first cap).run Tryd.prog w = .ok (.func fn first cap) w := fun _ _ _ _ => rfl
  clear hT ha hb
  go_enter Tryd.func8, Tryd.ntmps8
  go_wp2_with (first
    | (refine wpList_new25 _ w4 [] X1 hX1l (show Way w4 w4 [] from ⟨Stand.nil _, Below.refl _ _⟩) ?old ?hold rfl (.tmp 7) (.tmp 15) rfl rfl rfl ?hv ?_; (case hv => rfl); (case hold => rfl); intro z5 H5'; have H4 : Box (MS w w4 w.heap.size w1.heap.size P ∧ Way w4 z5 [(w4.heap.size, X1)]) := ⟨H4'.out, H5'.out⟩; clear H4' H5')
    | (go_at_call 16; refine Calls.mono (pieces_new [⟨some ⟨z2.heap.size, 0, none⟩, 64, 64, ovr P 54⟩, ⟨b, lb, cb, M⟩] 2 (ovr P 54 ++ M) X1 w3 (HT.out _ H3.out.1.2.2).1 ?hp rfl (by omega) (by simp [joinTo]) (by rw [List.length_append, length_ovr, hPl, hMl]; omega) HX1.out) ?_; (case hp => exact mac_hp H3.out.2 (HT.out _ H3.out.1.2.2).2.2); rintro e w4 ⟨rfl, hb4⟩; have H4' : Box (MS w w4 w.heap.size w1.heap.size P) := ⟨H3.out.1.on hb4⟩; clear hb4)
    | (go_at_call 15; refine Calls.mono (lay_any w1.heap.size P 54 _ hPl hPb (by omega) H2.out.2.1) ?_; rintro e w3 ⟨rfl, hB3, hb3⟩; have H3 : Box (MS w w3 w.heap.size w1.heap.size P ∧ Bytes w3 (some ⟨z2.heap.size, 0, none⟩) 64 (ovr P 54)) := ⟨H2.out.on hb3, hB3⟩; clear hB3 hb3)
    | (refine wpList_lay64 P hPs rfl (.tmp 5) (.tmp 9) rfl w1.heap.size _ rfl rfl (al_at rfl) rfl w1.heap.size w1 ((Below.refl _ _).alloc (Nat.le_refl _) _) (Nat.le_refl _) ?_; intro z2 HX2'; have H2 := mac_two H1.out HX2'.out; clear HX2')
    | (go_at_call 14; refine Calls.mono (HWH.out _ (HA.out _).2) ?_; rintro e w1 ⟨rfl, hb1⟩; have H1 : Box (w1.heap[w.heap.size]? = some (.cells (fil8 [] 32) 25 (0, 0)) ∧ Below w.heap.size w w1) := ⟨(hb1.block _ (by simp)).trans (HA.out _).1, (HA.out _).2.trans (hb1.mono (HA.out _).2.size)⟩; clear hb1))
  refine wp_region_any (by kernel_rfl) ?_
  change wpAny _ _ _ _ _ _ _ (World.drew _)
  have H5 := mac_five H4.out.1 H4.out.2
  refine wpAny_take (i := 0) (v := ?_) rfl (by kernel_rfl) (by kernel_rfl) (by kernel_rfl) (fun _ _ _ h => h) (Or.inl ⟨by rfl, ?_⟩) ?_
  rotate_left
  · intro w'; go_simp <;> with_reducible rfl
  try simp only [Act.put, List.setIfInBounds_toArray, List.set_cons_zero, List.set_cons_succ, List.getElem_toArray, List.getElem_cons_zero]
  refine wpAny_take (i := 2) (v := ?_) rfl (by kernel_rfl) (by kernel_rfl) (by kernel_rfl) (fun _ _ _ h => h) (Or.inl ⟨by rfl, ?_⟩) ?_
  rotate_left
  · intro w'; go_simp <;> with_reducible rfl
  try simp only [Act.put, List.setIfInBounds_toArray, List.set_cons_zero, List.set_cons_succ, List.getElem_toArray, List.getElem_cons_zero, List.getElem_cons_succ]
  refine wpAny_ready (rs := [1]) (by kernel_rfl) (by simp) ?_
  refine AllReady.cons rfl (fun K hK => ?_) AllReady.nil
  rw [if_pos (by rfl)]
  go_simp
  refine Calls.mono (lay_any w1.heap.size P 92 _ hPl hPb (by omega) H5.out.1.2.1) ?_
  rintro e w6 ⟨rfl, hB6, hb6⟩
  have H6 := mac_six H5.out hB6 hb6
  clear hB6 hb6
  refine hK _ _ ?_
  clear hK K
  try simp only [Act.put, List.setIfInBounds_toArray, List.set_cons_zero, List.set_cons_succ, List.getElem_toArray, List.getElem_cons_zero, List.getElem_cons_succ]
  refine wpAny_ready (rs := [3]) (by kernel_rfl) (by simp) ?_
  refine AllReady.cons rfl (fun K hK => ?_) AllReady.nil
  rw [if_pos (by rfl)]
  go_simp
  refine hK _ _ ?_
  clear hK K
  try simp only [Act.put, List.setIfInBounds_toArray, List.set_cons_zero, List.set_cons_succ, List.getElem_toArray, List.getElem_cons_zero, List.getElem_cons_succ]
  refine wpAny_ready (rs := [4]) (by kernel_rfl) (by simp) ?_
  refine AllReady.cons rfl (fun K hK => ?_) AllReady.nil
  rw [if_pos (by rfl)]
  go_simp
  refine Calls.mono (pieces_new [⟨some ⟨z5.heap.size, 0, none⟩, 64, 64, ovr P 92⟩, ⟨some ⟨w4.heap.size, 0, none⟩, 32, 32, X1⟩] 2 (ovr P 92 ++ X1) X2 w6 (HT.out _ H6.out.1.2.2).1 ?hp rfl (by omega) (by simp [joinTo]) (by rw [List.length_append, length_ovr, hPl, hX1l]; omega) HX2.out) ?_
  case hp => exact H6.out.2 hX1b
  rintro e w7 ⟨rfl, hb7⟩
  have H7 : Box (MS w w7 w.heap.size w1.heap.size P) := ⟨H6.out.1.on hb7⟩
  clear hb7
  refine hK _ _ ?_
  clear hK K
  try simp only [Act.put, List.setIfInBounds_toArray, List.set_cons_zero, List.set_cons_succ, List.getElem_toArray, List.getElem_cons_zero, List.getElem_cons_succ]
  refine wpAny_ready (rs := [5]) (by kernel_rfl) (by simp) ?_
  refine AllReady.cons rfl (fun K hK => ?_) AllReady.nil
  rw [if_pos (by rfl)]
  refine wp_store_row25 (.tmp 4) (.tmp 20) rfl w.heap.size X2 hX2l rfl rfl H7.out.1 ?_
  refine hK _ _ ?_
  clear hK K
  refine wpAny_done (by kernel_rfl) ?_ _
  (try go_wp2)
  (try simp only [Exit.inBlock, Exit.then])
  refine bodyPost_ret (results_cell_row (p := 4) (ty := 25) rfl _ _ w.heap.size 25 (u8s X2) (0, 0) _ rfl (setRow_heap _ _ _ _ _ _ H7.out.1) Tryd.underlying25 rfl (by rw [size_u8s, hX2l]; kernel_rfl)) rfl ?_
  exact ⟨by rw [HM.out], below_setRow H7.out.2.2 (Nat.le_refl _) _⟩
end Go.Proofs.YtanpbceppjpblabDoor
