/-
  The walk of DigestDigits: a digest has 64 digits; they are read as it, and with any other byte among them they aren't: the law returns true for every digest, place and byte, in every memory that holds the package's two tables.
-/
import Derived.Test.YtanpbceppjpblaaDoorDG
import Derived.Test.YtanpbceppjpblaaDoorSeq
import Derived.Test.YtanpbceppjpblaaDoorFB
namespace Go.Proofs.YtanpbceppjpblaaDoor
set_option linter.unusedVariables false
open Go.RowKit Plain

/-- A digest built out of nothing, behind a guard that is met. -/
theorem wpList_wbuild25 {ops : Array Oper} {rest : List Oper} {o : Oper} {a : Act} {w : World} {Q : Exit → Act → World → Prop} (hw : Region.wanted o (yielded ops a.tmps) = true) (ho : o.op = .build 25 #[])
    (h : wpList Tryd.prog ops Q rest (a.put o.dst (.agg (fil8 [] 32))) w) : wpList Tryd.prog ops Q (o :: rest) a w := by
  have e : Tryd.prog.built 25 ((#[] : Array (Nat × Operand)).map fun (i, x) => (i, a.eval x)).toList = some (fil8 [] 32) := by
    simpa using built25
  refine BigFrame.wpList_want hw fun _ hK => wp_build 25 _ ho ?_ ?_
  · rw [e]; rfl
  · rw [e]; exact hK _ _ h
theorem wp_bs {o : Oper} {a : Act} {w : World} {K : Act → World → Prop} {Q : Exit → Act → World → Prop} (x : Operand) (ho : o.op = .buildSlice 22 1 #[(0, x)]) (c : Int) (hx : a.eval x = .int .u8 c)
    (h : ∀ z g, Box ((0 ≤ c ∧ c ≤ 255 → Bytes z (some ⟨g, 0, none⟩) 1 [c]) ∧ Below w.heap.size w z) → K (a.put o.dst (.slice (some ⟨g, 0, none⟩) 1 1)) z) : o.wp Tryd.prog a w K Q := by
  have h' := h (w.alloc (.cells #[.int .u8 c] 5)) w.heap.size ⟨fun hc => bytes_of_row (X := [c]) (byt_cons _ _ hc byt_nil) (al_at rfl), (Below.refl _ _).alloc (Nat.le_refl _) _⟩
  unfold Oper.wp execOp
  simp only [ho]
  have e : (Instr.buildSlice 22 1 ((#[(0, x)] : Array (Nat × Operand)).map fun (i, x) => (i, a.eval x))).run Tryd.prog w = .ok (.slice (some ⟨w.heap.size, 0, none⟩) 1 1) (w.alloc (.cells #[.int .u8 c] 5)) := by
    simp only [List.map_toArray, List.map_cons, List.map_nil, hx]
    kernel_rfl
  simp only [Sem.run_bind, e, Result.andThen_ok, Sem.run_pure]
  exact h'
theorem wp_al25 {o : Oper} {a : Act} {w : World} {K : Act → World → Prop} {Q : Exit → Act → World → Prop} (ho : o.op = .alloc 25)
    (h : ∀ z g, Box (z.heap[g]? = some (.cells (u8s (List.replicate 32 0)) 25 (0, 0)) ∧ Below w.heap.size w z ∧ g = w.heap.size) → K (a.put o.dst (.pointer (some ⟨g, 0, none⟩))) z) : o.wp Tryd.prog a w K Q := by
  have h' := h (w.alloc (.cells (fil8 [] 32) 25)) w.heap.size ⟨al_at rfl, (Below.refl _ _).alloc (Nat.le_refl _) _, rfl⟩
  unfold Oper.wp execOp
  simp only [ho]
  have e : (zeroValue 25).run Tryd.prog w = .ok (.agg (fil8 [] 32)) w := by kernel_rfl
  simp only [Instr.alloc, Sem.run_bind, e, Result.andThen_ok, Sem.run_pure]
  exact h'
theorem wp_cv {o : Oper} {a : Act} {w : World} {K : Act → World → Prop} {Q : Exit → Act → World → Prop} (x : Operand) (ho : o.op = .convert 22 9 x) (g : Nat) (c : Int) (hx : a.eval x = .slice (some ⟨g, 0, none⟩) 1 1) (hb : Bytes w (some ⟨g, 0, none⟩) 1 [c])
    (h : K (a.put o.dst (.string (strOfNums [c]))) w) : o.wp Tryd.prog a w K Q := by
  unfold Oper.wp execOp
  simp only [ho, hx, Sem.run_bind, conv_row hb (by omega), Result.andThen_ok, Sem.run_pure]
  exact h
theorem way_lt {w x : World} {D : List Int} {l : List (Nat × List Int)} {g : Nat} (h : Way w x ((w.heap.size, D) :: l)) (hg : g = x.heap.size) : w.heap.size < g := by
  rw [hg]; exact (Array.getElem?_eq_some_iff.1 (h.1 _ (.head _)).2).1
theorem way_add {w x z : World} {Z : List Int} {l : List (Nat × List Int)} {g : Nat} (h : Way w x l) (hb : Below x.heap.size x z) (hz : z.heap[g]? = some (.cells (u8s Z) 25 (0, 0))) (hl : Z.length = 32) : Way w z ((g, Z) :: l) := by
  have h2 := h.on hb
  refine ⟨fun p hp => ?_, h2.2⟩
  simp only [List.mem_cons] at hp
  rcases hp with rfl | hp
  · exact ⟨hl, hz⟩
  · exact h2.1 p hp
theorem wp_st25 {o : Oper} {a : Act} {w x : World} {K : Act → World → Prop} {Q : Exit → Act → World → Prop} (p y : Operand) (ho : o.op = .store 25 p y) (g : Nat) (T : List Int) (hT : T.length = 32) {Z D : List Int}
    (hp : a.eval p = .pointer (some ⟨g, 0, none⟩)) (hy : a.eval y = .agg (u8s T)) (h : Way w x [(g, Z), (w.heap.size, D)]) (hg : w.heap.size < g)
    (hK : ∀ z, Box (Way w z [(g, T), (w.heap.size, D)]) → K (a.put o.dst undef) z) : o.wp Tryd.prog a x K Q := by
  have hs : (u8s T).size = 32 := by rw [size_u8s, hT]
  have h1 := h.1 _ (.head _)
  have h2 := h.1 _ (.tail _ (.head _))
  refine wp_store_row 25 p y ho g (u8s T) hp hy 25 _ h1.2 (by rw [hs]; kernel_rfl) (by rw [hs, size_u8s]; exact h1.1) (all_u8s T) (hK _ ⟨⟨fun q hq => ?_, below_setRow h.2 (Nat.le_of_lt hg) _⟩⟩)
  simp only [List.mem_cons, List.not_mem_nil, or_false] at hq
  rcases hq with rfl | rfl
  · exact ⟨hT, setRow_heap _ _ _ _ _ _ h1.2⟩
  · exact ⟨h2.1, by rw [setRow_other _ _ _ _ (by show w.heap.size ≠ g; omega)]; exact h2.2⟩

set_option maxRecDepth 20000 in
set_option maxHeartbeats 8000000 in
theorem digits_any (D : List Int) (at' c : Int) (w : World) (hT : Tabs w) (hD : Byt D) (hl : D.length = 32) (hat : 0 ≤ at' ∧ at' ≤ 255) (hcb : 0 ≤ c ∧ c ≤ 255)
    (hcls : (vo c = true ∧ 48 ≤ c ∧ c ≤ 57) ∨ (vo c = true ∧ 57 < c ∧ 97 ≤ c ∧ c ≤ 102) ∨ (vo c = false ∧ c < 48) ∨ (vo c = false ∧ 57 < c ∧ c < 97) ∨ (vo c = false ∧ 102 < c)) :
    Calls Tryd.prog 7 #[.agg (u8s D), .int .u8 at', .int .u8 c] w fun e w' => e = .returned (.bool true) ∧ Below w.heap.size w w' := by
  obtain ⟨k, HK⟩ : ∃ k : Nat, Hid (at' % 64 = (k : Int)) := ⟨(at' % 64).toNat, by show _ = _; omega⟩
  have hkk : at' % 64 = (k : Int) := HK.out
  have hk : k < 64 := by omega
  obtain ⟨N, HN⟩ : ∃ N, Box (strOfNums (hexL D 32) = N) := ⟨_, ⟨rfl⟩⟩
  obtain ⟨P, HP⟩ : ∃ P, Box (strOfNums ((hexL D 32).set k c) = P) := ⟨_, ⟨rfl⟩⟩
  obtain ⟨T, E, hTl, hrd, hF, hG⟩ := read_set D hD hl k hk c hcb P HP.out
  have hNs : N.size = 64 := by rw [← HN.out, strOfNums_size, length_hexL]
  have hNn : nums N = hexL D 32 := by rw [← HN.out]; exact nums_str _ (byt_hexL D 32)
  obtain ⟨y, HY⟩ : ∃ y, Box ((hexL D 32).getD k 0 = y) := ⟨_, ⟨rfl⟩⟩
  rw [HY.out] at hF
  have HVO : Box (∀ i, i < 64 → vo ((nums N).getD i 0) = true) := ⟨fun i hi => by rw [hNn]; exact vo_hexL D 32 i hD (by omega)⟩
  have iy := index_str N .i64 k (by omega)
  rw [hNn, HY.out] at iy
  obtain ⟨q, HQ⟩ : ∃ q, Box (strOfNums [c] = q) := ⟨_, ⟨rfl⟩⟩
  have HPS : Box (N.extract 0 k ++ q ++ N.extract (k + 1) 64 = P) := ⟨by rw [← HN.out, ← HP.out, ← HQ.out]; exact str_set D k hk c⟩
  have hq1 : q.size = 1 := by rw [← HQ.out, strOfNums_size]; rfl
  have s1 : (N.extract 0 k).size = k := by rw [ByteArray.size_extract, hNs]; omega
  have s3 : (N.extract (k + 1) 64).size = 63 - k := by rw [ByteArray.size_extract, hNs]; omega
  have m1 : (N.extract 0 k).size + q.size ≤ maxLen := by rw [s1, hq1]; unfold maxLen; omega
  have m2 : (N.extract 0 k ++ q).size + (N.extract (k + 1) 64).size ≤ maxLen := by rw [ByteArray.size_append, s1, hq1, s3]; unfold maxLen; omega
  have ka : (k : Int) ≤ 64 := by omega
  have kb : (0 : Int) ≤ (k : Int) + 1 := by omega
  have kc : (k : Int) + 1 ≤ 64 := by omega
  have kd : (0 : Int) ≤ (k : Int) + 1 ∧ (k : Int) + 1 ≤ 64 := ⟨kb, kc⟩
  have m1' : ¬ 9223372036854775807 < min k 64 + q.size := by rw [hq1]; omega
  have m2' : ¬ 9223372036854775807 < min k 64 + q.size + (63 - k) := by rw [hq1]; omega
  clear s1 s3 hq1
  have HRD : Box (∀ x, Calls Tryd.prog 15 #[.string P] x fun e w' => e = .returned (.tuple #[.agg (u8s T), .int .i64 E]) ∧ Below x.heap.size x w') := ⟨hrd⟩
  have HF : Box (vo c = true → E = 0 ∧ decide (T = D) = decide (c = y)) := ⟨hF⟩
  have HG : Box (vo c = false → E = 11 ∧ T = List.replicate 32 0) := ⟨hG⟩
  have HH : Box (∀ x, Calls Tryd.prog 12 #[.agg (u8s D)] x fun e w' => e = .returned (.string N) ∧ Below x.heap.size x w') := ⟨fun x => by rw [← HN.out]; exact hex_any D x hD hl⟩
  obtain ⟨Z, HZZ⟩ : ∃ Z, Box (List.replicate 32 (0 : Int) = Z) := ⟨_, ⟨rfl⟩⟩
  have hZl : Z.length = 32 := by rw [← HZZ.out]; simp
  have H0 : Box (Way w (w.alloc (.cells (u8s D) 25)) [(w.heap.size, D)] ∧ Tabs (w.alloc (.cells (u8s D) 25))) := ⟨⟨fun p hp => by
    simp only [List.mem_singleton] at hp
    subst hp
    exact ⟨hl, al_at rfl⟩, (Below.refl _ _).alloc (Nat.le_refl _) _⟩, hT.below ((Below.refl _ _).alloc (Nat.le_refl _) _)⟩
  have wk := i64_fits ((k : Int) + 1) (by omega)
  clear hT hrd hF hG hNn HN HP HY
  go_enter Tryd.func7, Tryd.ntmps7
  go_wp2_with (first
    | (go_at_call 12; refine Calls.mono (HH.out w1) ?_; rintro e w2 ⟨rfl, hb2⟩; have H2 : Box (Way w w2 [(w.heap.size, D)]) := ⟨H1.out.on hb2⟩; clear hb2)
    | (refine wpList_see25 w.heap.size D _ H1.out.1 (.head _) (.tmp 3) rfl rfl (by rfl) ?_)
    | (go_at_call 9; refine (awake_any _ H0.out.2).mono ?_; rintro e w1 ⟨rfl, hb1⟩; have H1 : Box (Way w w1 [(w.heap.size, D)]) := ⟨H0.out.1.on hb1⟩; clear hb1))
  go_loop [9] (fun i => ∃ j : Nat, j ≤ 64 ∧ i = .int .i64 j) (fun i => 64 - (intOf i).toNat)
  case atStart => exact ⟨0, by omega, rfl⟩
  case round =>
    obtain ⟨j, hj, rfl⟩ := hrel
    by_cases hlt : j < 64
    · have ij := index_str N .i64 j (by omega)
      have hvj := HVO.out j hlt
      generalize (nums N).getD j 0 = u at ij hvj
      simp only [vo, Bool.or_eq_true, decide_eq_true_eq] at hvj
      clear iy
      rcases hvj with ⟨v1, v2⟩ | ⟨v1, v2⟩
      · have g1 : ¬ u < 48 := by omega
        have g1' : decide (u < 48) = false := by simp; omega
        have g2 : ¬ 57 < u := by omega
        have g2' : decide (57 < u) = false := by simp; omega
        go_wp2
        go_round
        case rel => exact ⟨j + 1, by omega, by go_num⟩
        case measure => simp [intOf]; omega
      · have g1 : ¬ u < 48 := by omega
        have g1' : decide (u < 48) = false := by simp; omega
        have g2 : 57 < u := by omega
        have g3 : ¬ u < 97 := by omega
        have g3' : decide (u < 97) = false := by simp; omega
        have g4 : ¬ 102 < u := by omega
        have g4' : decide (102 < u) = false := by simp; omega
        go_wp2
        go_round
        case rel => exact ⟨j + 1, by omega, by go_num⟩
        case measure => simp [intOf]; omega
    · have hj64 : j = 64 := by omega
      subst hj64
      clear HVO hlt hj
      go_wp2
      refine wp_region_any (by kernel_rfl) ?_
      change wpAny _ _ _ _ _ _ _ (World.drew _)
      have HX0 : Box (Way w w2.drew [(w.heap.size, D)] ∧ True) := ⟨⟨H2.out.1, H2.out.2.drew⟩, trivial⟩
      refine wpAny_take (i := 0) (v := ?_) rfl (by kernel_rfl) (by kernel_rfl) (by kernel_rfl) (fun _ _ _ h => h) (Or.inl ⟨by rfl, ?_⟩) ?_
      rotate_left
      · intro w'; go_simp <;> with_reducible rfl
      try simp only [Act.put, List.setIfInBounds_toArray, List.set_cons_zero, List.set_cons_succ, List.getElem_toArray, List.getElem_cons_zero]
      refine wpAny_take (i := 1) (v := ?_) rfl (by kernel_rfl) (by kernel_rfl) (by kernel_rfl) (fun _ _ _ h => h) (Or.inl ⟨by rfl, ?_⟩) ?_
      rotate_left
      · intro w'; go_simp <;> with_reducible rfl
      try simp only [Act.put, List.setIfInBounds_toArray, List.set_cons_zero, List.set_cons_succ, List.getElem_toArray, List.getElem_cons_zero, List.getElem_cons_succ]
      refine wpAny_take (i := 2) (v := ?_) rfl (by kernel_rfl) (by kernel_rfl) (by kernel_rfl) (fun _ _ _ h => h) (Or.inl ⟨by rfl, ?_⟩) ?_
      rotate_left
      · intro w'; go_simp <;> with_reducible rfl
      try simp only [Act.put, List.setIfInBounds_toArray, List.set_cons_zero, List.set_cons_succ, List.getElem_toArray, List.getElem_cons_zero, List.getElem_cons_succ]
      refine wpAny_take (i := 3) (v := ?_) rfl (by kernel_rfl) (by kernel_rfl) (by kernel_rfl) (fun _ _ _ h => h) (Or.inl ⟨by rfl, ?_⟩) ?_
      rotate_left
      · intro w'; go_simp <;> with_reducible rfl
      try simp only [Act.put, List.setIfInBounds_toArray, List.set_cons_zero, List.set_cons_succ, List.getElem_toArray, List.getElem_cons_zero, List.getElem_cons_succ]
      refine wpAny_take (i := 7) (v := ?_) rfl (by kernel_rfl) (by kernel_rfl) (by kernel_rfl) (fun _ _ _ h => h) (Or.inl ⟨by rfl, ?_⟩) ?_
      rotate_left
      · intro w'; go_simp <;> with_reducible rfl
      try simp only [Act.put, List.setIfInBounds_toArray, List.set_cons_zero, List.set_cons_succ, List.getElem_toArray, List.getElem_cons_zero, List.getElem_cons_succ]
      refine wpAny_take (i := 8) (v := ?_) rfl (by kernel_rfl) (by kernel_rfl) (by kernel_rfl) (fun _ _ _ h => h) (Or.inl ⟨by rfl, ?_⟩) ?_
      rotate_left
      · intro w'; go_simp <;> with_reducible rfl
      try simp only [Act.put, List.setIfInBounds_toArray, List.set_cons_zero, List.set_cons_succ, List.getElem_toArray, List.getElem_cons_zero, List.getElem_cons_succ]
      refine wpAny_take (i := 9) (v := ?_) rfl (by kernel_rfl) (by kernel_rfl) (by kernel_rfl) (fun _ _ _ h => h) (Or.inl ⟨by rfl, ?_⟩) ?_
      rotate_left
      · intro w'; go_simp <;> with_reducible rfl
      try simp only [Act.put, List.setIfInBounds_toArray, List.set_cons_zero, List.set_cons_succ, List.getElem_toArray, List.getElem_cons_zero, List.getElem_cons_succ]
      refine wpAny_take (i := 10) (v := ?_) rfl (by kernel_rfl) (by kernel_rfl) (by kernel_rfl) (fun _ _ _ h => h) (Or.inl ⟨by rfl, ?_⟩) ?_
      rotate_left
      · intro w'; go_simp <;> with_reducible rfl
      try simp only [Act.put, List.setIfInBounds_toArray, List.set_cons_zero, List.set_cons_succ, List.getElem_toArray, List.getElem_cons_zero, List.getElem_cons_succ]
      refine wpAny_ready (rs := [4, 16]) (by kernel_rfl) (by simp) ?_
      refine (AllReady.cons rfl (fun K hK => ?_) (AllReady.cons rfl (fun K hK => ?_) AllReady.nil))
      · rw [if_pos (by rfl)]
        refine wp_bs (.tmp 55) rfl c rfl ?_
        intro x1 g4 HX1'
        have HX1 : Box (Way w x1 [(w.heap.size, D)] ∧ Bytes x1 (some ⟨g4, 0, none⟩) 1 [c]) := ⟨HX0.out.1.on HX1'.out.2, HX1'.out.1 hcb⟩
        clear HX1'
        refine hK _ _ ?_
        clear hK K
        try simp only [Act.put, List.setIfInBounds_toArray, List.set_cons_zero, List.set_cons_succ, List.getElem_toArray, List.getElem_cons_zero, List.getElem_cons_succ]
        refine wpAny_ready (rs := [5, 16]) (by kernel_rfl) (by simp) ?_
        refine (AllReady.cons rfl (fun K hK => ?_) (AllReady.cons rfl (fun K hK => ?_) AllReady.nil))
        · rw [if_pos (by rfl)]
          refine wp_cv (.tmp 56) rfl g4 c rfl HX1.out.2 ?_
          rw [HQ.out]
          refine hK _ _ ?_
          have HX2 : Box (Way w x1 [(w.heap.size, D)] ∧ True) := ⟨HX1.out.1, trivial⟩
          clear hK K
          try simp only [Act.put, List.setIfInBounds_toArray, List.set_cons_zero, List.set_cons_succ, List.getElem_toArray, List.getElem_cons_zero, List.getElem_cons_succ]
          refine wpAny_take (i := 6) (v := ?_) rfl (by kernel_rfl) (by kernel_rfl) (by kernel_rfl) (fun _ _ _ h => h) (Or.inl ⟨by rfl, ?_⟩) ?_
          rotate_left
          · intro w'; go_simp <;> with_reducible rfl
          try simp only [Act.put, List.setIfInBounds_toArray, List.set_cons_zero, List.set_cons_succ, List.getElem_toArray, List.getElem_cons_zero, List.getElem_cons_succ]
          refine wpAny_take (i := 11) (v := ?_) rfl (by kernel_rfl) (by kernel_rfl) (by kernel_rfl) (fun _ _ _ h => h) (Or.inl ⟨by rfl, ?_⟩) ?_
          rotate_left
          · intro w'; go_simp <;> with_reducible rfl
          try simp only [Act.put, List.setIfInBounds_toArray, List.set_cons_zero, List.set_cons_succ, List.getElem_toArray, List.getElem_cons_zero, List.getElem_cons_succ]
          refine wpAny_ready (rs := [12, 16]) (by kernel_rfl) (by simp) ?_
          refine (AllReady.cons rfl (fun K hK => ?_) (AllReady.cons rfl (fun K hK => ?_) AllReady.nil))
          · rw [if_pos (by rfl)]
            go_simp
            rw [HPS.out]
            refine Calls.mono (HRD.out x1) ?_
            rintro e x3 ⟨rfl, hb⟩
            have HX3 : Box (Way w x3 [(w.heap.size, D)] ∧ True) := ⟨HX2.out.1.on hb, trivial⟩
            clear hb
            refine hK _ _ ?_
            clear hK K
            try simp only [Act.put, List.setIfInBounds_toArray, List.set_cons_zero, List.set_cons_succ, List.getElem_toArray, List.getElem_cons_zero, List.getElem_cons_succ]
            refine wpAny_take (i := 13) (v := ?_) rfl (by kernel_rfl) (by kernel_rfl) (by kernel_rfl) (fun _ _ _ h => h) (Or.inl ⟨by rfl, ?_⟩) ?_
            rotate_left
            · intro w'; go_simp <;> with_reducible rfl
            try simp only [Act.put, List.setIfInBounds_toArray, List.set_cons_zero, List.set_cons_succ, List.getElem_toArray, List.getElem_cons_zero, List.getElem_cons_succ]
            refine wpAny_take (i := 14) (v := ?_) rfl (by kernel_rfl) (by kernel_rfl) (by kernel_rfl) (fun _ _ _ h => h) (Or.inl ⟨by rfl, ?_⟩) ?_
            rotate_left
            · intro w'; go_simp <;> with_reducible rfl
            try simp only [Act.put, List.setIfInBounds_toArray, List.set_cons_zero, List.set_cons_succ, List.getElem_toArray, List.getElem_cons_zero, List.getElem_cons_succ]
            refine wpAny_take (i := 15) (v := ?_) rfl (by kernel_rfl) (by kernel_rfl) (by kernel_rfl) (fun _ _ _ h => h) (Or.inl ⟨by rfl, ?_⟩) ?_
            rotate_left
            · intro w'; go_simp <;> with_reducible rfl
            try simp only [Act.put, List.setIfInBounds_toArray, List.set_cons_zero, List.set_cons_succ, List.getElem_toArray, List.getElem_cons_zero, List.getElem_cons_succ]
            refine wpAny_ready (rs := [16]) (by kernel_rfl) (by simp) ?_
            refine (AllReady.cons rfl (fun K hK => ?_) AllReady.nil)
            rw [if_pos (by rfl)]
            refine wp_al25 rfl ?_
            intro x4 g11 HX4'
            rw [HZZ.out] at HX4'
            have HX4 : Box (Way w x4 [(g11, Z), (w.heap.size, D)] ∧ True) := ⟨way_add HX3.out.1 HX4'.out.2.1 HX4'.out.1 hZl, trivial⟩
            have hg11 : w.heap.size < g11 := way_lt HX3.out.1 HX4'.out.2.2
            clear HX4'
            refine hK _ _ ?_
            clear hK K
            try simp only [Act.put, List.setIfInBounds_toArray, List.set_cons_zero, List.set_cons_succ, List.getElem_toArray, List.getElem_cons_zero, List.getElem_cons_succ]
            refine wpAny_ready (rs := [17]) (by kernel_rfl) (by simp) ?_
            refine AllReady.cons rfl (fun K hK => ?_) AllReady.nil
            rw [if_pos (by rfl)]
            refine wp_st25 (.tmp 11) (.tmp 65) rfl g11 T hTl rfl rfl HX4.out.1 hg11 ?_
            intro x9 HZ
            refine hK _ _ ?_
            clear hK K
            refine wpAny_take (i := 18) (v := ?_) rfl (by kernel_rfl) (by kernel_rfl) (by kernel_rfl) (fun _ _ _ h => h) (Or.inl ⟨by rfl, ?_⟩) ?_
            rotate_left
            · intro w'; go_simp <;> with_reducible rfl
            try simp only [Act.put, List.setIfInBounds_toArray, List.set_cons_zero, List.set_cons_succ, List.getElem_toArray, List.getElem_cons_zero, List.getElem_cons_succ]
            refine wpAny_done (by kernel_rfl) ?_ _
            rcases hcls with ⟨hv, q1, q2⟩ | ⟨hv, q1, q2, q3⟩ | ⟨hv, q1⟩ | ⟨hv, q1, q2⟩ | ⟨hv, q1⟩
            · obtain ⟨hE, hTD⟩ := HF.out hv
              subst hE
              have f1 : (48 : Int) ≤ c := q1
              have f2 : c ≤ 57 := q2
              by_cases hcy : c = y
              · subst hcy
                have hTD' : decide (T = D) = true := by rw [hTD]; simp
                have eTD := eq25 T D hTl hl
                rw [hTD'] at eTD
                clear hTD hTD'
                go_wp2
                refine Seq.begin_any (by kernel_rfl) (fun wd hd => ?_)
                have HD : Box (Way w wd [(g11, T), (w.heap.size, D)]) := ⟨HZ.out.on hd⟩
                clear hd
                refine Seq.take_lat (i := 0) (v := ?_) rfl (by kernel_rfl) (by kernel_rfl) (by kernel_rfl) (fun _ _ _ h => h) (by rfl) ?_ ?_
                rotate_left
                · intro w' hLat; change Below _ _ _ at hLat; go_simp <;> with_reducible rfl
                try simp only [Act.put, List.setIfInBounds_toArray, List.set_cons_zero, List.set_cons_succ, List.getElem_toArray, List.getElem_cons_zero]
                refine Seq.take_lat (i := 1) (v := ?_) rfl (by kernel_rfl) (by kernel_rfl) (by kernel_rfl) (fun _ _ _ h => h) (by rfl) ?_ ?_
                rotate_left
                · intro w' hLat; change Below _ _ _ at hLat; go_simp <;> with_reducible rfl
                try simp only [Act.put, List.setIfInBounds_toArray, List.set_cons_zero, List.set_cons_succ, List.getElem_toArray, List.getElem_cons_zero, List.getElem_cons_succ]
                refine Seq.take_lat (i := 2) (v := ?_) rfl (by kernel_rfl) (by kernel_rfl) (by kernel_rfl) (fun _ _ _ h => h) (by rfl) ?_ ?_
                rotate_left
                · intro w' hLat; change Below _ _ _ at hLat; go_simp <;> with_reducible rfl
                try simp only [Act.put, List.setIfInBounds_toArray, List.set_cons_zero, List.set_cons_succ, List.getElem_toArray, List.getElem_cons_zero, List.getElem_cons_succ]
                refine Seq.take_lat (i := 3) (v := .agg (u8s T)) rfl (by kernel_rfl) (by kernel_rfl) (by kernel_rfl) (fun _ _ _ h => h) (by rfl) (fun w' hLat => exec_load25 (.tmp 11) rfl g11 rfl T _ (HD.out.1.below hLat) (.head _)) ?_
                try simp only [Act.put, List.setIfInBounds_toArray, List.set_cons_zero, List.set_cons_succ, List.getElem_toArray, List.getElem_cons_zero, List.getElem_cons_succ]
                refine Seq.take_lat (i := 4) (v := .agg (u8s D)) rfl (by kernel_rfl) (by kernel_rfl) (by kernel_rfl) (fun _ _ _ h => h) (by rfl) (fun w' hLat => exec_load25 (.tmp 3) rfl w.heap.size rfl D _ (HD.out.1.below hLat) (.tail _ (.head _))) ?_
                try simp only [Act.put, List.setIfInBounds_toArray, List.set_cons_zero, List.set_cons_succ, List.getElem_toArray, List.getElem_cons_zero, List.getElem_cons_succ]
                refine Seq.take_lat (i := 5) (v := ?_) rfl (by kernel_rfl) (by kernel_rfl) (by kernel_rfl) (fun _ _ _ h => h) (by rfl) ?_ ?_
                rotate_left
                · intro w' hLat; change Below _ _ _ at hLat; go_simp <;> with_reducible rfl
                try simp only [Act.put, List.setIfInBounds_toArray, List.set_cons_zero, List.set_cons_succ, List.getElem_toArray, List.getElem_cons_zero, List.getElem_cons_succ]
                refine Seq.take_lat (i := 6) (v := ?_) rfl (by kernel_rfl) (by kernel_rfl) (by kernel_rfl) (fun _ _ _ h => h) (by rfl) ?_ ?_
                rotate_left
                · intro w' hLat; change Below _ _ _ at hLat; go_simp <;> with_reducible rfl
                try simp only [Act.put, List.setIfInBounds_toArray, List.set_cons_zero, List.set_cons_succ, List.getElem_toArray, List.getElem_cons_zero, List.getElem_cons_succ]
                refine Seq.take_lat (i := 7) (v := ?_) rfl (by kernel_rfl) (by kernel_rfl) (by kernel_rfl) (fun _ _ _ h => h) (by rfl) ?_ ?_
                rotate_left
                · intro w' hLat; change Below _ _ _ at hLat; go_simp <;> with_reducible rfl
                try simp only [Act.put, List.setIfInBounds_toArray, List.set_cons_zero, List.set_cons_succ, List.getElem_toArray, List.getElem_cons_zero, List.getElem_cons_succ]
                refine Seq.take_lat (i := 8) (v := ?_) rfl (by kernel_rfl) (by kernel_rfl) (by kernel_rfl) (fun _ _ _ h => h) (by rfl) ?_ ?_
                rotate_left
                · intro w' hLat; change Below _ _ _ at hLat; go_simp <;> with_reducible rfl
                try simp only [Act.put, List.setIfInBounds_toArray, List.set_cons_zero, List.set_cons_succ, List.getElem_toArray, List.getElem_cons_zero, List.getElem_cons_succ]
                refine Seq.take_lat (i := 9) (v := ?_) rfl (by kernel_rfl) (by kernel_rfl) (by kernel_rfl) (fun _ _ _ h => h) (by rfl) ?_ ?_
                rotate_left
                · intro w' hLat; change Below _ _ _ at hLat; go_simp <;> with_reducible rfl
                try simp only [Act.put, List.setIfInBounds_toArray, List.set_cons_zero, List.set_cons_succ, List.getElem_toArray, List.getElem_cons_zero, List.getElem_cons_succ]
                refine Seq.take_lat (i := 10) (v := ?_) rfl (by kernel_rfl) (by kernel_rfl) (by kernel_rfl) (fun _ _ _ h => h) (by rfl) ?_ ?_
                rotate_left
                · intro w' hLat; change Below _ _ _ at hLat; go_simp <;> with_reducible rfl
                try simp only [Act.put, List.setIfInBounds_toArray, List.set_cons_zero, List.set_cons_succ, List.getElem_toArray, List.getElem_cons_zero, List.getElem_cons_succ]
                refine Seq.take_lat (i := 11) (v := ?_) rfl (by kernel_rfl) (by kernel_rfl) (by kernel_rfl) (fun _ _ _ h => h) (by rfl) ?_ ?_
                rotate_left
                · intro w' hLat; change Below _ _ _ at hLat; go_simp <;> with_reducible rfl
                try simp only [Act.put, List.setIfInBounds_toArray, List.set_cons_zero, List.set_cons_succ, List.getElem_toArray, List.getElem_cons_zero, List.getElem_cons_succ]
                refine Seq.take_lat (i := 12) (v := ?_) rfl (by kernel_rfl) (by kernel_rfl) (by kernel_rfl) (fun _ _ _ h => h) (by rfl) ?_ ?_
                rotate_left
                · intro w' hLat; change Below _ _ _ at hLat; go_simp <;> with_reducible rfl
                try simp only [Act.put, List.setIfInBounds_toArray, List.set_cons_zero, List.set_cons_succ, List.getElem_toArray, List.getElem_cons_zero, List.getElem_cons_succ]
                refine Seq.take_lat (i := 13) (v := ?_) rfl (by kernel_rfl) (by kernel_rfl) (by kernel_rfl) (fun _ _ _ h => h) (by rfl) ?_ ?_
                rotate_left
                · intro w' hLat; change Below _ _ _ at hLat; go_simp <;> with_reducible rfl
                try simp only [Act.put, List.setIfInBounds_toArray, List.set_cons_zero, List.set_cons_succ, List.getElem_toArray, List.getElem_cons_zero, List.getElem_cons_succ]
                refine wpAnyH_done (by kernel_rfl) ?_ _
                go_wp2
                go_ret
                exact ⟨rfl, HD.out.2⟩
              · have hTD' : decide (T = D) = false := by rw [hTD]; simpa using hcy
                have hcy' : (c == y) = false := by simpa using hcy
                have eTD := eq25 T D hTl hl
                rw [hTD'] at eTD
                clear hTD hTD'
                go_wp2
                refine Seq.begin_any (by kernel_rfl) (fun wd hd => ?_)
                have HD : Box (Way w wd [(g11, T), (w.heap.size, D)]) := ⟨HZ.out.on hd⟩
                clear hd
                refine Seq.take_lat (i := 0) (v := ?_) rfl (by kernel_rfl) (by kernel_rfl) (by kernel_rfl) (fun _ _ _ h => h) (by rfl) ?_ ?_
                rotate_left
                · intro w' hLat; change Below _ _ _ at hLat; go_simp <;> with_reducible rfl
                try simp only [Act.put, List.setIfInBounds_toArray, List.set_cons_zero, List.set_cons_succ, List.getElem_toArray, List.getElem_cons_zero]
                refine Seq.take_lat (i := 1) (v := ?_) rfl (by kernel_rfl) (by kernel_rfl) (by kernel_rfl) (fun _ _ _ h => h) (by rfl) ?_ ?_
                rotate_left
                · intro w' hLat; change Below _ _ _ at hLat; go_simp <;> with_reducible rfl
                try simp only [Act.put, List.setIfInBounds_toArray, List.set_cons_zero, List.set_cons_succ, List.getElem_toArray, List.getElem_cons_zero, List.getElem_cons_succ]
                refine Seq.take_lat (i := 2) (v := ?_) rfl (by kernel_rfl) (by kernel_rfl) (by kernel_rfl) (fun _ _ _ h => h) (by rfl) ?_ ?_
                rotate_left
                · intro w' hLat; change Below _ _ _ at hLat; go_simp <;> with_reducible rfl
                try simp only [Act.put, List.setIfInBounds_toArray, List.set_cons_zero, List.set_cons_succ, List.getElem_toArray, List.getElem_cons_zero, List.getElem_cons_succ]
                refine Seq.take_lat (i := 3) (v := .agg (u8s T)) rfl (by kernel_rfl) (by kernel_rfl) (by kernel_rfl) (fun _ _ _ h => h) (by rfl) (fun w' hLat => exec_load25 (.tmp 11) rfl g11 rfl T _ (HD.out.1.below hLat) (.head _)) ?_
                try simp only [Act.put, List.setIfInBounds_toArray, List.set_cons_zero, List.set_cons_succ, List.getElem_toArray, List.getElem_cons_zero, List.getElem_cons_succ]
                refine Seq.take_lat (i := 4) (v := .agg (u8s D)) rfl (by kernel_rfl) (by kernel_rfl) (by kernel_rfl) (fun _ _ _ h => h) (by rfl) (fun w' hLat => exec_load25 (.tmp 3) rfl w.heap.size rfl D _ (HD.out.1.below hLat) (.tail _ (.head _))) ?_
                try simp only [Act.put, List.setIfInBounds_toArray, List.set_cons_zero, List.set_cons_succ, List.getElem_toArray, List.getElem_cons_zero, List.getElem_cons_succ]
                refine Seq.take_lat (i := 5) (v := ?_) rfl (by kernel_rfl) (by kernel_rfl) (by kernel_rfl) (fun _ _ _ h => h) (by rfl) ?_ ?_
                rotate_left
                · intro w' hLat; change Below _ _ _ at hLat; go_simp <;> with_reducible rfl
                try simp only [Act.put, List.setIfInBounds_toArray, List.set_cons_zero, List.set_cons_succ, List.getElem_toArray, List.getElem_cons_zero, List.getElem_cons_succ]
                refine Seq.take_lat (i := 6) (v := ?_) rfl (by kernel_rfl) (by kernel_rfl) (by kernel_rfl) (fun _ _ _ h => h) (by rfl) ?_ ?_
                rotate_left
                · intro w' hLat; change Below _ _ _ at hLat; go_simp <;> with_reducible rfl
                try simp only [Act.put, List.setIfInBounds_toArray, List.set_cons_zero, List.set_cons_succ, List.getElem_toArray, List.getElem_cons_zero, List.getElem_cons_succ]
                refine Seq.take_lat (i := 7) (v := ?_) rfl (by kernel_rfl) (by kernel_rfl) (by kernel_rfl) (fun _ _ _ h => h) (by rfl) ?_ ?_
                rotate_left
                · intro w' hLat; change Below _ _ _ at hLat; go_simp <;> with_reducible rfl
                try simp only [Act.put, List.setIfInBounds_toArray, List.set_cons_zero, List.set_cons_succ, List.getElem_toArray, List.getElem_cons_zero, List.getElem_cons_succ]
                refine Seq.take_lat (i := 8) (v := ?_) rfl (by kernel_rfl) (by kernel_rfl) (by kernel_rfl) (fun _ _ _ h => h) (by rfl) ?_ ?_
                rotate_left
                · intro w' hLat; change Below _ _ _ at hLat; go_simp <;> with_reducible rfl
                try simp only [Act.put, List.setIfInBounds_toArray, List.set_cons_zero, List.set_cons_succ, List.getElem_toArray, List.getElem_cons_zero, List.getElem_cons_succ]
                refine Seq.take_lat (i := 9) (v := ?_) rfl (by kernel_rfl) (by kernel_rfl) (by kernel_rfl) (fun _ _ _ h => h) (by rfl) ?_ ?_
                rotate_left
                · intro w' hLat; change Below _ _ _ at hLat; go_simp <;> with_reducible rfl
                try simp only [Act.put, List.setIfInBounds_toArray, List.set_cons_zero, List.set_cons_succ, List.getElem_toArray, List.getElem_cons_zero, List.getElem_cons_succ]
                refine Seq.take_lat (i := 10) (v := ?_) rfl (by kernel_rfl) (by kernel_rfl) (by kernel_rfl) (fun _ _ _ h => h) (by rfl) ?_ ?_
                rotate_left
                · intro w' hLat; change Below _ _ _ at hLat; go_simp <;> with_reducible rfl
                try simp only [Act.put, List.setIfInBounds_toArray, List.set_cons_zero, List.set_cons_succ, List.getElem_toArray, List.getElem_cons_zero, List.getElem_cons_succ]
                refine Seq.take_lat (i := 11) (v := ?_) rfl (by kernel_rfl) (by kernel_rfl) (by kernel_rfl) (fun _ _ _ h => h) (by rfl) ?_ ?_
                rotate_left
                · intro w' hLat; change Below _ _ _ at hLat; go_simp <;> with_reducible rfl
                try simp only [Act.put, List.setIfInBounds_toArray, List.set_cons_zero, List.set_cons_succ, List.getElem_toArray, List.getElem_cons_zero, List.getElem_cons_succ]
                refine Seq.take_lat (i := 12) (v := ?_) rfl (by kernel_rfl) (by kernel_rfl) (by kernel_rfl) (fun _ _ _ h => h) (by rfl) ?_ ?_
                rotate_left
                · intro w' hLat; change Below _ _ _ at hLat; go_simp <;> with_reducible rfl
                try simp only [Act.put, List.setIfInBounds_toArray, List.set_cons_zero, List.set_cons_succ, List.getElem_toArray, List.getElem_cons_zero, List.getElem_cons_succ]
                refine Seq.take_lat (i := 13) (v := ?_) rfl (by kernel_rfl) (by kernel_rfl) (by kernel_rfl) (fun _ _ _ h => h) (by rfl) ?_ ?_
                rotate_left
                · intro w' hLat; change Below _ _ _ at hLat; go_simp <;> with_reducible rfl
                try simp only [Act.put, List.setIfInBounds_toArray, List.set_cons_zero, List.set_cons_succ, List.getElem_toArray, List.getElem_cons_zero, List.getElem_cons_succ]
                refine wpAnyH_done (by kernel_rfl) ?_ _
                go_wp2
                go_ret
                exact ⟨rfl, HD.out.2⟩
            · obtain ⟨hE, hTD⟩ := HF.out hv
              subst hE
              have f0 : (48 : Int) ≤ c := by omega
              have f1 : ¬ c ≤ 57 := by omega
              have f1' : decide (c ≤ 57) = false := by simp; omega
              have f2 : (97 : Int) ≤ c := q2
              have f3 : c ≤ 102 := q3
              by_cases hcy : c = y
              · subst hcy
                have hTD' : decide (T = D) = true := by rw [hTD]; simp
                have eTD := eq25 T D hTl hl
                rw [hTD'] at eTD
                clear hTD hTD'
                go_wp2
                refine Seq.begin_any (by kernel_rfl) (fun wd hd => ?_)
                have HD : Box (Way w wd [(g11, T), (w.heap.size, D)]) := ⟨HZ.out.on hd⟩
                clear hd
                refine Seq.take_lat (i := 0) (v := ?_) rfl (by kernel_rfl) (by kernel_rfl) (by kernel_rfl) (fun _ _ _ h => h) (by rfl) ?_ ?_
                rotate_left
                · intro w' hLat; change Below _ _ _ at hLat; go_simp <;> with_reducible rfl
                try simp only [Act.put, List.setIfInBounds_toArray, List.set_cons_zero, List.set_cons_succ, List.getElem_toArray, List.getElem_cons_zero]
                refine Seq.take_lat (i := 1) (v := ?_) rfl (by kernel_rfl) (by kernel_rfl) (by kernel_rfl) (fun _ _ _ h => h) (by rfl) ?_ ?_
                rotate_left
                · intro w' hLat; change Below _ _ _ at hLat; go_simp <;> with_reducible rfl
                try simp only [Act.put, List.setIfInBounds_toArray, List.set_cons_zero, List.set_cons_succ, List.getElem_toArray, List.getElem_cons_zero, List.getElem_cons_succ]
                refine Seq.take_lat (i := 2) (v := ?_) rfl (by kernel_rfl) (by kernel_rfl) (by kernel_rfl) (fun _ _ _ h => h) (by rfl) ?_ ?_
                rotate_left
                · intro w' hLat; change Below _ _ _ at hLat; go_simp <;> with_reducible rfl
                try simp only [Act.put, List.setIfInBounds_toArray, List.set_cons_zero, List.set_cons_succ, List.getElem_toArray, List.getElem_cons_zero, List.getElem_cons_succ]
                refine Seq.take_lat (i := 3) (v := .agg (u8s T)) rfl (by kernel_rfl) (by kernel_rfl) (by kernel_rfl) (fun _ _ _ h => h) (by rfl) (fun w' hLat => exec_load25 (.tmp 11) rfl g11 rfl T _ (HD.out.1.below hLat) (.head _)) ?_
                try simp only [Act.put, List.setIfInBounds_toArray, List.set_cons_zero, List.set_cons_succ, List.getElem_toArray, List.getElem_cons_zero, List.getElem_cons_succ]
                refine Seq.take_lat (i := 4) (v := .agg (u8s D)) rfl (by kernel_rfl) (by kernel_rfl) (by kernel_rfl) (fun _ _ _ h => h) (by rfl) (fun w' hLat => exec_load25 (.tmp 3) rfl w.heap.size rfl D _ (HD.out.1.below hLat) (.tail _ (.head _))) ?_
                try simp only [Act.put, List.setIfInBounds_toArray, List.set_cons_zero, List.set_cons_succ, List.getElem_toArray, List.getElem_cons_zero, List.getElem_cons_succ]
                refine Seq.take_lat (i := 5) (v := ?_) rfl (by kernel_rfl) (by kernel_rfl) (by kernel_rfl) (fun _ _ _ h => h) (by rfl) ?_ ?_
                rotate_left
                · intro w' hLat; change Below _ _ _ at hLat; go_simp <;> with_reducible rfl
                try simp only [Act.put, List.setIfInBounds_toArray, List.set_cons_zero, List.set_cons_succ, List.getElem_toArray, List.getElem_cons_zero, List.getElem_cons_succ]
                refine Seq.take_lat (i := 6) (v := ?_) rfl (by kernel_rfl) (by kernel_rfl) (by kernel_rfl) (fun _ _ _ h => h) (by rfl) ?_ ?_
                rotate_left
                · intro w' hLat; change Below _ _ _ at hLat; go_simp <;> with_reducible rfl
                try simp only [Act.put, List.setIfInBounds_toArray, List.set_cons_zero, List.set_cons_succ, List.getElem_toArray, List.getElem_cons_zero, List.getElem_cons_succ]
                refine Seq.take_lat (i := 7) (v := ?_) rfl (by kernel_rfl) (by kernel_rfl) (by kernel_rfl) (fun _ _ _ h => h) (by rfl) ?_ ?_
                rotate_left
                · intro w' hLat; change Below _ _ _ at hLat; go_simp <;> with_reducible rfl
                try simp only [Act.put, List.setIfInBounds_toArray, List.set_cons_zero, List.set_cons_succ, List.getElem_toArray, List.getElem_cons_zero, List.getElem_cons_succ]
                refine Seq.take_lat (i := 8) (v := ?_) rfl (by kernel_rfl) (by kernel_rfl) (by kernel_rfl) (fun _ _ _ h => h) (by rfl) ?_ ?_
                rotate_left
                · intro w' hLat; change Below _ _ _ at hLat; go_simp <;> with_reducible rfl
                try simp only [Act.put, List.setIfInBounds_toArray, List.set_cons_zero, List.set_cons_succ, List.getElem_toArray, List.getElem_cons_zero, List.getElem_cons_succ]
                refine Seq.take_lat (i := 9) (v := ?_) rfl (by kernel_rfl) (by kernel_rfl) (by kernel_rfl) (fun _ _ _ h => h) (by rfl) ?_ ?_
                rotate_left
                · intro w' hLat; change Below _ _ _ at hLat; go_simp <;> with_reducible rfl
                try simp only [Act.put, List.setIfInBounds_toArray, List.set_cons_zero, List.set_cons_succ, List.getElem_toArray, List.getElem_cons_zero, List.getElem_cons_succ]
                refine Seq.take_lat (i := 10) (v := ?_) rfl (by kernel_rfl) (by kernel_rfl) (by kernel_rfl) (fun _ _ _ h => h) (by rfl) ?_ ?_
                rotate_left
                · intro w' hLat; change Below _ _ _ at hLat; go_simp <;> with_reducible rfl
                try simp only [Act.put, List.setIfInBounds_toArray, List.set_cons_zero, List.set_cons_succ, List.getElem_toArray, List.getElem_cons_zero, List.getElem_cons_succ]
                refine Seq.take_lat (i := 11) (v := ?_) rfl (by kernel_rfl) (by kernel_rfl) (by kernel_rfl) (fun _ _ _ h => h) (by rfl) ?_ ?_
                rotate_left
                · intro w' hLat; change Below _ _ _ at hLat; go_simp <;> with_reducible rfl
                try simp only [Act.put, List.setIfInBounds_toArray, List.set_cons_zero, List.set_cons_succ, List.getElem_toArray, List.getElem_cons_zero, List.getElem_cons_succ]
                refine Seq.take_lat (i := 12) (v := ?_) rfl (by kernel_rfl) (by kernel_rfl) (by kernel_rfl) (fun _ _ _ h => h) (by rfl) ?_ ?_
                rotate_left
                · intro w' hLat; change Below _ _ _ at hLat; go_simp <;> with_reducible rfl
                try simp only [Act.put, List.setIfInBounds_toArray, List.set_cons_zero, List.set_cons_succ, List.getElem_toArray, List.getElem_cons_zero, List.getElem_cons_succ]
                refine Seq.take_lat (i := 13) (v := ?_) rfl (by kernel_rfl) (by kernel_rfl) (by kernel_rfl) (fun _ _ _ h => h) (by rfl) ?_ ?_
                rotate_left
                · intro w' hLat; change Below _ _ _ at hLat; go_simp <;> with_reducible rfl
                try simp only [Act.put, List.setIfInBounds_toArray, List.set_cons_zero, List.set_cons_succ, List.getElem_toArray, List.getElem_cons_zero, List.getElem_cons_succ]
                refine wpAnyH_done (by kernel_rfl) ?_ _
                go_wp2
                go_ret
                exact ⟨rfl, HD.out.2⟩
              · have hTD' : decide (T = D) = false := by rw [hTD]; simpa using hcy
                have hcy' : (c == y) = false := by simpa using hcy
                have eTD := eq25 T D hTl hl
                rw [hTD'] at eTD
                clear hTD hTD'
                go_wp2
                refine Seq.begin_any (by kernel_rfl) (fun wd hd => ?_)
                have HD : Box (Way w wd [(g11, T), (w.heap.size, D)]) := ⟨HZ.out.on hd⟩
                clear hd
                refine Seq.take_lat (i := 0) (v := ?_) rfl (by kernel_rfl) (by kernel_rfl) (by kernel_rfl) (fun _ _ _ h => h) (by rfl) ?_ ?_
                rotate_left
                · intro w' hLat; change Below _ _ _ at hLat; go_simp <;> with_reducible rfl
                try simp only [Act.put, List.setIfInBounds_toArray, List.set_cons_zero, List.set_cons_succ, List.getElem_toArray, List.getElem_cons_zero]
                refine Seq.take_lat (i := 1) (v := ?_) rfl (by kernel_rfl) (by kernel_rfl) (by kernel_rfl) (fun _ _ _ h => h) (by rfl) ?_ ?_
                rotate_left
                · intro w' hLat; change Below _ _ _ at hLat; go_simp <;> with_reducible rfl
                try simp only [Act.put, List.setIfInBounds_toArray, List.set_cons_zero, List.set_cons_succ, List.getElem_toArray, List.getElem_cons_zero, List.getElem_cons_succ]
                refine Seq.take_lat (i := 2) (v := ?_) rfl (by kernel_rfl) (by kernel_rfl) (by kernel_rfl) (fun _ _ _ h => h) (by rfl) ?_ ?_
                rotate_left
                · intro w' hLat; change Below _ _ _ at hLat; go_simp <;> with_reducible rfl
                try simp only [Act.put, List.setIfInBounds_toArray, List.set_cons_zero, List.set_cons_succ, List.getElem_toArray, List.getElem_cons_zero, List.getElem_cons_succ]
                refine Seq.take_lat (i := 3) (v := .agg (u8s T)) rfl (by kernel_rfl) (by kernel_rfl) (by kernel_rfl) (fun _ _ _ h => h) (by rfl) (fun w' hLat => exec_load25 (.tmp 11) rfl g11 rfl T _ (HD.out.1.below hLat) (.head _)) ?_
                try simp only [Act.put, List.setIfInBounds_toArray, List.set_cons_zero, List.set_cons_succ, List.getElem_toArray, List.getElem_cons_zero, List.getElem_cons_succ]
                refine Seq.take_lat (i := 4) (v := .agg (u8s D)) rfl (by kernel_rfl) (by kernel_rfl) (by kernel_rfl) (fun _ _ _ h => h) (by rfl) (fun w' hLat => exec_load25 (.tmp 3) rfl w.heap.size rfl D _ (HD.out.1.below hLat) (.tail _ (.head _))) ?_
                try simp only [Act.put, List.setIfInBounds_toArray, List.set_cons_zero, List.set_cons_succ, List.getElem_toArray, List.getElem_cons_zero, List.getElem_cons_succ]
                refine Seq.take_lat (i := 5) (v := ?_) rfl (by kernel_rfl) (by kernel_rfl) (by kernel_rfl) (fun _ _ _ h => h) (by rfl) ?_ ?_
                rotate_left
                · intro w' hLat; change Below _ _ _ at hLat; go_simp <;> with_reducible rfl
                try simp only [Act.put, List.setIfInBounds_toArray, List.set_cons_zero, List.set_cons_succ, List.getElem_toArray, List.getElem_cons_zero, List.getElem_cons_succ]
                refine Seq.take_lat (i := 6) (v := ?_) rfl (by kernel_rfl) (by kernel_rfl) (by kernel_rfl) (fun _ _ _ h => h) (by rfl) ?_ ?_
                rotate_left
                · intro w' hLat; change Below _ _ _ at hLat; go_simp <;> with_reducible rfl
                try simp only [Act.put, List.setIfInBounds_toArray, List.set_cons_zero, List.set_cons_succ, List.getElem_toArray, List.getElem_cons_zero, List.getElem_cons_succ]
                refine Seq.take_lat (i := 7) (v := ?_) rfl (by kernel_rfl) (by kernel_rfl) (by kernel_rfl) (fun _ _ _ h => h) (by rfl) ?_ ?_
                rotate_left
                · intro w' hLat; change Below _ _ _ at hLat; go_simp <;> with_reducible rfl
                try simp only [Act.put, List.setIfInBounds_toArray, List.set_cons_zero, List.set_cons_succ, List.getElem_toArray, List.getElem_cons_zero, List.getElem_cons_succ]
                refine Seq.take_lat (i := 8) (v := ?_) rfl (by kernel_rfl) (by kernel_rfl) (by kernel_rfl) (fun _ _ _ h => h) (by rfl) ?_ ?_
                rotate_left
                · intro w' hLat; change Below _ _ _ at hLat; go_simp <;> with_reducible rfl
                try simp only [Act.put, List.setIfInBounds_toArray, List.set_cons_zero, List.set_cons_succ, List.getElem_toArray, List.getElem_cons_zero, List.getElem_cons_succ]
                refine Seq.take_lat (i := 9) (v := ?_) rfl (by kernel_rfl) (by kernel_rfl) (by kernel_rfl) (fun _ _ _ h => h) (by rfl) ?_ ?_
                rotate_left
                · intro w' hLat; change Below _ _ _ at hLat; go_simp <;> with_reducible rfl
                try simp only [Act.put, List.setIfInBounds_toArray, List.set_cons_zero, List.set_cons_succ, List.getElem_toArray, List.getElem_cons_zero, List.getElem_cons_succ]
                refine Seq.take_lat (i := 10) (v := ?_) rfl (by kernel_rfl) (by kernel_rfl) (by kernel_rfl) (fun _ _ _ h => h) (by rfl) ?_ ?_
                rotate_left
                · intro w' hLat; change Below _ _ _ at hLat; go_simp <;> with_reducible rfl
                try simp only [Act.put, List.setIfInBounds_toArray, List.set_cons_zero, List.set_cons_succ, List.getElem_toArray, List.getElem_cons_zero, List.getElem_cons_succ]
                refine Seq.take_lat (i := 11) (v := ?_) rfl (by kernel_rfl) (by kernel_rfl) (by kernel_rfl) (fun _ _ _ h => h) (by rfl) ?_ ?_
                rotate_left
                · intro w' hLat; change Below _ _ _ at hLat; go_simp <;> with_reducible rfl
                try simp only [Act.put, List.setIfInBounds_toArray, List.set_cons_zero, List.set_cons_succ, List.getElem_toArray, List.getElem_cons_zero, List.getElem_cons_succ]
                refine Seq.take_lat (i := 12) (v := ?_) rfl (by kernel_rfl) (by kernel_rfl) (by kernel_rfl) (fun _ _ _ h => h) (by rfl) ?_ ?_
                rotate_left
                · intro w' hLat; change Below _ _ _ at hLat; go_simp <;> with_reducible rfl
                try simp only [Act.put, List.setIfInBounds_toArray, List.set_cons_zero, List.set_cons_succ, List.getElem_toArray, List.getElem_cons_zero, List.getElem_cons_succ]
                refine Seq.take_lat (i := 13) (v := ?_) rfl (by kernel_rfl) (by kernel_rfl) (by kernel_rfl) (fun _ _ _ h => h) (by rfl) ?_ ?_
                rotate_left
                · intro w' hLat; change Below _ _ _ at hLat; go_simp <;> with_reducible rfl
                try simp only [Act.put, List.setIfInBounds_toArray, List.set_cons_zero, List.set_cons_succ, List.getElem_toArray, List.getElem_cons_zero, List.getElem_cons_succ]
                refine wpAnyH_done (by kernel_rfl) ?_ _
                go_wp2
                go_ret
                exact ⟨rfl, HD.out.2⟩
            · obtain ⟨hE, hTZ⟩ := HG.out hv
              subst hE
              have f1 : ¬ (48 : Int) ≤ c := by omega
              have f1' : decide ((48 : Int) ≤ c) = false := by simp; omega
              have f2 : ¬ (97 : Int) ≤ c := by omega
              have f2' : decide ((97 : Int) ≤ c) = false := by simp; omega
              have eTZ := eq_same25 T hTl
              have HTF : Box (fil8 [] 32 = u8s T) := ⟨by rw [hTZ]; rfl⟩
              clear hTZ
              go_wp2_with (first | (refine wpList_see25 g11 T _ HZ.out.1 (.head _) (.tmp 11) rfl rfl (by rfl) ?_) | (refine wpList_wbuild25 (by rfl) rfl ?_; rw [HTF.out]))
              go_ret
              exact ⟨rfl, HZ.out.2⟩
            · obtain ⟨hE, hTZ⟩ := HG.out hv
              subst hE
              have f0 : (48 : Int) ≤ c := by omega
              have f1 : ¬ c ≤ 57 := by omega
              have f1' : decide (c ≤ 57) = false := by simp; omega
              have f2 : ¬ (97 : Int) ≤ c := by omega
              have f2' : decide ((97 : Int) ≤ c) = false := by simp; omega
              have eTZ := eq_same25 T hTl
              have HTF : Box (fil8 [] 32 = u8s T) := ⟨by rw [hTZ]; rfl⟩
              clear hTZ
              go_wp2_with (first | (refine wpList_see25 g11 T _ HZ.out.1 (.head _) (.tmp 11) rfl rfl (by rfl) ?_) | (refine wpList_wbuild25 (by rfl) rfl ?_; rw [HTF.out]))
              go_ret
              exact ⟨rfl, HZ.out.2⟩
            · obtain ⟨hE, hTZ⟩ := HG.out hv
              subst hE
              have f0 : (48 : Int) ≤ c := by omega
              have f1 : ¬ c ≤ 57 := by omega
              have f1' : decide (c ≤ 57) = false := by simp; omega
              have f2 : (97 : Int) ≤ c := by omega
              have f3 : ¬ c ≤ 102 := by omega
              have f3' : decide (c ≤ 102) = false := by simp; omega
              have eTZ := eq_same25 T hTl
              have HTF : Box (fil8 [] 32 = u8s T) := ⟨by rw [hTZ]; rfl⟩
              clear hTZ
              go_wp2_with (first | (refine wpList_see25 g11 T _ HZ.out.1 (.head _) (.tmp 11) rfl rfl (by rfl) ?_) | (refine wpList_wbuild25 (by rfl) rfl ?_; rw [HTF.out]))
              go_ret
              exact ⟨rfl, HZ.out.2⟩
          · rw [if_pos (by rfl)]
            refine wp_al25 rfl ?_
            intro x6 g11 HX6'
            rw [HZZ.out] at HX6'
            have HX6 : Box (Way w x6 [(g11, Z), (w.heap.size, D)] ∧ True) := ⟨way_add HX2.out.1 HX6'.out.2.1 HX6'.out.1 hZl, trivial⟩
            have hg11 : w.heap.size < g11 := way_lt HX2.out.1 HX6'.out.2.2
            clear HX6'
            refine hK _ _ ?_
            clear hK K
            try simp only [Act.put, List.setIfInBounds_toArray, List.set_cons_zero, List.set_cons_succ, List.getElem_toArray, List.getElem_cons_zero, List.getElem_cons_succ]
            refine wpAny_ready (rs := [12]) (by kernel_rfl) (by simp) ?_
            refine (AllReady.cons rfl (fun K hK => ?_) AllReady.nil)
            rw [if_pos (by rfl)]
            go_simp
            rw [HPS.out]
            refine Calls.mono (HRD.out x6) ?_
            rintro e x7 ⟨rfl, hb⟩
            have HX7 : Box (Way w x7 [(g11, Z), (w.heap.size, D)] ∧ True) := ⟨HX6.out.1.on hb, trivial⟩
            clear hb
            refine hK _ _ ?_
            clear hK K
            try simp only [Act.put, List.setIfInBounds_toArray, List.set_cons_zero, List.set_cons_succ, List.getElem_toArray, List.getElem_cons_zero, List.getElem_cons_succ]
            refine wpAny_take (i := 13) (v := ?_) rfl (by kernel_rfl) (by kernel_rfl) (by kernel_rfl) (fun _ _ _ h => h) (Or.inl ⟨by rfl, ?_⟩) ?_
            rotate_left
            · intro w'; go_simp <;> with_reducible rfl
            try simp only [Act.put, List.setIfInBounds_toArray, List.set_cons_zero, List.set_cons_succ, List.getElem_toArray, List.getElem_cons_zero, List.getElem_cons_succ]
            refine wpAny_take (i := 14) (v := ?_) rfl (by kernel_rfl) (by kernel_rfl) (by kernel_rfl) (fun _ _ _ h => h) (Or.inl ⟨by rfl, ?_⟩) ?_
            rotate_left
            · intro w'; go_simp <;> with_reducible rfl
            try simp only [Act.put, List.setIfInBounds_toArray, List.set_cons_zero, List.set_cons_succ, List.getElem_toArray, List.getElem_cons_zero, List.getElem_cons_succ]
            refine wpAny_take (i := 15) (v := ?_) rfl (by kernel_rfl) (by kernel_rfl) (by kernel_rfl) (fun _ _ _ h => h) (Or.inl ⟨by rfl, ?_⟩) ?_
            rotate_left
            · intro w'; go_simp <;> with_reducible rfl
            try simp only [Act.put, List.setIfInBounds_toArray, List.set_cons_zero, List.set_cons_succ, List.getElem_toArray, List.getElem_cons_zero, List.getElem_cons_succ]
            refine wpAny_ready (rs := [17]) (by kernel_rfl) (by simp) ?_
            refine AllReady.cons rfl (fun K hK => ?_) AllReady.nil
            rw [if_pos (by rfl)]
            refine wp_st25 (.tmp 11) (.tmp 65) rfl g11 T hTl rfl rfl HX7.out.1 hg11 ?_
            intro x9 HZ
            refine hK _ _ ?_
            clear hK K
            refine wpAny_take (i := 18) (v := ?_) rfl (by kernel_rfl) (by kernel_rfl) (by kernel_rfl) (fun _ _ _ h => h) (Or.inl ⟨by rfl, ?_⟩) ?_
            rotate_left
            · intro w'; go_simp <;> with_reducible rfl
            try simp only [Act.put, List.setIfInBounds_toArray, List.set_cons_zero, List.set_cons_succ, List.getElem_toArray, List.getElem_cons_zero, List.getElem_cons_succ]
            refine wpAny_done (by kernel_rfl) ?_ _
            rcases hcls with ⟨hv, q1, q2⟩ | ⟨hv, q1, q2, q3⟩ | ⟨hv, q1⟩ | ⟨hv, q1, q2⟩ | ⟨hv, q1⟩
            · obtain ⟨hE, hTD⟩ := HF.out hv
              subst hE
              have f1 : (48 : Int) ≤ c := q1
              have f2 : c ≤ 57 := q2
              by_cases hcy : c = y
              · subst hcy
                have hTD' : decide (T = D) = true := by rw [hTD]; simp
                have eTD := eq25 T D hTl hl
                rw [hTD'] at eTD
                clear hTD hTD'
                go_wp2
                refine Seq.begin_any (by kernel_rfl) (fun wd hd => ?_)
                have HD : Box (Way w wd [(g11, T), (w.heap.size, D)]) := ⟨HZ.out.on hd⟩
                clear hd
                refine Seq.take_lat (i := 0) (v := ?_) rfl (by kernel_rfl) (by kernel_rfl) (by kernel_rfl) (fun _ _ _ h => h) (by rfl) ?_ ?_
                rotate_left
                · intro w' hLat; change Below _ _ _ at hLat; go_simp <;> with_reducible rfl
                try simp only [Act.put, List.setIfInBounds_toArray, List.set_cons_zero, List.set_cons_succ, List.getElem_toArray, List.getElem_cons_zero]
                refine Seq.take_lat (i := 1) (v := ?_) rfl (by kernel_rfl) (by kernel_rfl) (by kernel_rfl) (fun _ _ _ h => h) (by rfl) ?_ ?_
                rotate_left
                · intro w' hLat; change Below _ _ _ at hLat; go_simp <;> with_reducible rfl
                try simp only [Act.put, List.setIfInBounds_toArray, List.set_cons_zero, List.set_cons_succ, List.getElem_toArray, List.getElem_cons_zero, List.getElem_cons_succ]
                refine Seq.take_lat (i := 2) (v := ?_) rfl (by kernel_rfl) (by kernel_rfl) (by kernel_rfl) (fun _ _ _ h => h) (by rfl) ?_ ?_
                rotate_left
                · intro w' hLat; change Below _ _ _ at hLat; go_simp <;> with_reducible rfl
                try simp only [Act.put, List.setIfInBounds_toArray, List.set_cons_zero, List.set_cons_succ, List.getElem_toArray, List.getElem_cons_zero, List.getElem_cons_succ]
                refine Seq.take_lat (i := 3) (v := .agg (u8s T)) rfl (by kernel_rfl) (by kernel_rfl) (by kernel_rfl) (fun _ _ _ h => h) (by rfl) (fun w' hLat => exec_load25 (.tmp 11) rfl g11 rfl T _ (HD.out.1.below hLat) (.head _)) ?_
                try simp only [Act.put, List.setIfInBounds_toArray, List.set_cons_zero, List.set_cons_succ, List.getElem_toArray, List.getElem_cons_zero, List.getElem_cons_succ]
                refine Seq.take_lat (i := 4) (v := .agg (u8s D)) rfl (by kernel_rfl) (by kernel_rfl) (by kernel_rfl) (fun _ _ _ h => h) (by rfl) (fun w' hLat => exec_load25 (.tmp 3) rfl w.heap.size rfl D _ (HD.out.1.below hLat) (.tail _ (.head _))) ?_
                try simp only [Act.put, List.setIfInBounds_toArray, List.set_cons_zero, List.set_cons_succ, List.getElem_toArray, List.getElem_cons_zero, List.getElem_cons_succ]
                refine Seq.take_lat (i := 5) (v := ?_) rfl (by kernel_rfl) (by kernel_rfl) (by kernel_rfl) (fun _ _ _ h => h) (by rfl) ?_ ?_
                rotate_left
                · intro w' hLat; change Below _ _ _ at hLat; go_simp <;> with_reducible rfl
                try simp only [Act.put, List.setIfInBounds_toArray, List.set_cons_zero, List.set_cons_succ, List.getElem_toArray, List.getElem_cons_zero, List.getElem_cons_succ]
                refine Seq.take_lat (i := 6) (v := ?_) rfl (by kernel_rfl) (by kernel_rfl) (by kernel_rfl) (fun _ _ _ h => h) (by rfl) ?_ ?_
                rotate_left
                · intro w' hLat; change Below _ _ _ at hLat; go_simp <;> with_reducible rfl
                try simp only [Act.put, List.setIfInBounds_toArray, List.set_cons_zero, List.set_cons_succ, List.getElem_toArray, List.getElem_cons_zero, List.getElem_cons_succ]
                refine Seq.take_lat (i := 7) (v := ?_) rfl (by kernel_rfl) (by kernel_rfl) (by kernel_rfl) (fun _ _ _ h => h) (by rfl) ?_ ?_
                rotate_left
                · intro w' hLat; change Below _ _ _ at hLat; go_simp <;> with_reducible rfl
                try simp only [Act.put, List.setIfInBounds_toArray, List.set_cons_zero, List.set_cons_succ, List.getElem_toArray, List.getElem_cons_zero, List.getElem_cons_succ]
                refine Seq.take_lat (i := 8) (v := ?_) rfl (by kernel_rfl) (by kernel_rfl) (by kernel_rfl) (fun _ _ _ h => h) (by rfl) ?_ ?_
                rotate_left
                · intro w' hLat; change Below _ _ _ at hLat; go_simp <;> with_reducible rfl
                try simp only [Act.put, List.setIfInBounds_toArray, List.set_cons_zero, List.set_cons_succ, List.getElem_toArray, List.getElem_cons_zero, List.getElem_cons_succ]
                refine Seq.take_lat (i := 9) (v := ?_) rfl (by kernel_rfl) (by kernel_rfl) (by kernel_rfl) (fun _ _ _ h => h) (by rfl) ?_ ?_
                rotate_left
                · intro w' hLat; change Below _ _ _ at hLat; go_simp <;> with_reducible rfl
                try simp only [Act.put, List.setIfInBounds_toArray, List.set_cons_zero, List.set_cons_succ, List.getElem_toArray, List.getElem_cons_zero, List.getElem_cons_succ]
                refine Seq.take_lat (i := 10) (v := ?_) rfl (by kernel_rfl) (by kernel_rfl) (by kernel_rfl) (fun _ _ _ h => h) (by rfl) ?_ ?_
                rotate_left
                · intro w' hLat; change Below _ _ _ at hLat; go_simp <;> with_reducible rfl
                try simp only [Act.put, List.setIfInBounds_toArray, List.set_cons_zero, List.set_cons_succ, List.getElem_toArray, List.getElem_cons_zero, List.getElem_cons_succ]
                refine Seq.take_lat (i := 11) (v := ?_) rfl (by kernel_rfl) (by kernel_rfl) (by kernel_rfl) (fun _ _ _ h => h) (by rfl) ?_ ?_
                rotate_left
                · intro w' hLat; change Below _ _ _ at hLat; go_simp <;> with_reducible rfl
                try simp only [Act.put, List.setIfInBounds_toArray, List.set_cons_zero, List.set_cons_succ, List.getElem_toArray, List.getElem_cons_zero, List.getElem_cons_succ]
                refine Seq.take_lat (i := 12) (v := ?_) rfl (by kernel_rfl) (by kernel_rfl) (by kernel_rfl) (fun _ _ _ h => h) (by rfl) ?_ ?_
                rotate_left
                · intro w' hLat; change Below _ _ _ at hLat; go_simp <;> with_reducible rfl
                try simp only [Act.put, List.setIfInBounds_toArray, List.set_cons_zero, List.set_cons_succ, List.getElem_toArray, List.getElem_cons_zero, List.getElem_cons_succ]
                refine Seq.take_lat (i := 13) (v := ?_) rfl (by kernel_rfl) (by kernel_rfl) (by kernel_rfl) (fun _ _ _ h => h) (by rfl) ?_ ?_
                rotate_left
                · intro w' hLat; change Below _ _ _ at hLat; go_simp <;> with_reducible rfl
                try simp only [Act.put, List.setIfInBounds_toArray, List.set_cons_zero, List.set_cons_succ, List.getElem_toArray, List.getElem_cons_zero, List.getElem_cons_succ]
                refine wpAnyH_done (by kernel_rfl) ?_ _
                go_wp2
                go_ret
                exact ⟨rfl, HD.out.2⟩
              · have hTD' : decide (T = D) = false := by rw [hTD]; simpa using hcy
                have hcy' : (c == y) = false := by simpa using hcy
                have eTD := eq25 T D hTl hl
                rw [hTD'] at eTD
                clear hTD hTD'
                go_wp2
                refine Seq.begin_any (by kernel_rfl) (fun wd hd => ?_)
                have HD : Box (Way w wd [(g11, T), (w.heap.size, D)]) := ⟨HZ.out.on hd⟩
                clear hd
                refine Seq.take_lat (i := 0) (v := ?_) rfl (by kernel_rfl) (by kernel_rfl) (by kernel_rfl) (fun _ _ _ h => h) (by rfl) ?_ ?_
                rotate_left
                · intro w' hLat; change Below _ _ _ at hLat; go_simp <;> with_reducible rfl
                try simp only [Act.put, List.setIfInBounds_toArray, List.set_cons_zero, List.set_cons_succ, List.getElem_toArray, List.getElem_cons_zero]
                refine Seq.take_lat (i := 1) (v := ?_) rfl (by kernel_rfl) (by kernel_rfl) (by kernel_rfl) (fun _ _ _ h => h) (by rfl) ?_ ?_
                rotate_left
                · intro w' hLat; change Below _ _ _ at hLat; go_simp <;> with_reducible rfl
                try simp only [Act.put, List.setIfInBounds_toArray, List.set_cons_zero, List.set_cons_succ, List.getElem_toArray, List.getElem_cons_zero, List.getElem_cons_succ]
                refine Seq.take_lat (i := 2) (v := ?_) rfl (by kernel_rfl) (by kernel_rfl) (by kernel_rfl) (fun _ _ _ h => h) (by rfl) ?_ ?_
                rotate_left
                · intro w' hLat; change Below _ _ _ at hLat; go_simp <;> with_reducible rfl
                try simp only [Act.put, List.setIfInBounds_toArray, List.set_cons_zero, List.set_cons_succ, List.getElem_toArray, List.getElem_cons_zero, List.getElem_cons_succ]
                refine Seq.take_lat (i := 3) (v := .agg (u8s T)) rfl (by kernel_rfl) (by kernel_rfl) (by kernel_rfl) (fun _ _ _ h => h) (by rfl) (fun w' hLat => exec_load25 (.tmp 11) rfl g11 rfl T _ (HD.out.1.below hLat) (.head _)) ?_
                try simp only [Act.put, List.setIfInBounds_toArray, List.set_cons_zero, List.set_cons_succ, List.getElem_toArray, List.getElem_cons_zero, List.getElem_cons_succ]
                refine Seq.take_lat (i := 4) (v := .agg (u8s D)) rfl (by kernel_rfl) (by kernel_rfl) (by kernel_rfl) (fun _ _ _ h => h) (by rfl) (fun w' hLat => exec_load25 (.tmp 3) rfl w.heap.size rfl D _ (HD.out.1.below hLat) (.tail _ (.head _))) ?_
                try simp only [Act.put, List.setIfInBounds_toArray, List.set_cons_zero, List.set_cons_succ, List.getElem_toArray, List.getElem_cons_zero, List.getElem_cons_succ]
                refine Seq.take_lat (i := 5) (v := ?_) rfl (by kernel_rfl) (by kernel_rfl) (by kernel_rfl) (fun _ _ _ h => h) (by rfl) ?_ ?_
                rotate_left
                · intro w' hLat; change Below _ _ _ at hLat; go_simp <;> with_reducible rfl
                try simp only [Act.put, List.setIfInBounds_toArray, List.set_cons_zero, List.set_cons_succ, List.getElem_toArray, List.getElem_cons_zero, List.getElem_cons_succ]
                refine Seq.take_lat (i := 6) (v := ?_) rfl (by kernel_rfl) (by kernel_rfl) (by kernel_rfl) (fun _ _ _ h => h) (by rfl) ?_ ?_
                rotate_left
                · intro w' hLat; change Below _ _ _ at hLat; go_simp <;> with_reducible rfl
                try simp only [Act.put, List.setIfInBounds_toArray, List.set_cons_zero, List.set_cons_succ, List.getElem_toArray, List.getElem_cons_zero, List.getElem_cons_succ]
                refine Seq.take_lat (i := 7) (v := ?_) rfl (by kernel_rfl) (by kernel_rfl) (by kernel_rfl) (fun _ _ _ h => h) (by rfl) ?_ ?_
                rotate_left
                · intro w' hLat; change Below _ _ _ at hLat; go_simp <;> with_reducible rfl
                try simp only [Act.put, List.setIfInBounds_toArray, List.set_cons_zero, List.set_cons_succ, List.getElem_toArray, List.getElem_cons_zero, List.getElem_cons_succ]
                refine Seq.take_lat (i := 8) (v := ?_) rfl (by kernel_rfl) (by kernel_rfl) (by kernel_rfl) (fun _ _ _ h => h) (by rfl) ?_ ?_
                rotate_left
                · intro w' hLat; change Below _ _ _ at hLat; go_simp <;> with_reducible rfl
                try simp only [Act.put, List.setIfInBounds_toArray, List.set_cons_zero, List.set_cons_succ, List.getElem_toArray, List.getElem_cons_zero, List.getElem_cons_succ]
                refine Seq.take_lat (i := 9) (v := ?_) rfl (by kernel_rfl) (by kernel_rfl) (by kernel_rfl) (fun _ _ _ h => h) (by rfl) ?_ ?_
                rotate_left
                · intro w' hLat; change Below _ _ _ at hLat; go_simp <;> with_reducible rfl
                try simp only [Act.put, List.setIfInBounds_toArray, List.set_cons_zero, List.set_cons_succ, List.getElem_toArray, List.getElem_cons_zero, List.getElem_cons_succ]
                refine Seq.take_lat (i := 10) (v := ?_) rfl (by kernel_rfl) (by kernel_rfl) (by kernel_rfl) (fun _ _ _ h => h) (by rfl) ?_ ?_
                rotate_left
                · intro w' hLat; change Below _ _ _ at hLat; go_simp <;> with_reducible rfl
                try simp only [Act.put, List.setIfInBounds_toArray, List.set_cons_zero, List.set_cons_succ, List.getElem_toArray, List.getElem_cons_zero, List.getElem_cons_succ]
                refine Seq.take_lat (i := 11) (v := ?_) rfl (by kernel_rfl) (by kernel_rfl) (by kernel_rfl) (fun _ _ _ h => h) (by rfl) ?_ ?_
                rotate_left
                · intro w' hLat; change Below _ _ _ at hLat; go_simp <;> with_reducible rfl
                try simp only [Act.put, List.setIfInBounds_toArray, List.set_cons_zero, List.set_cons_succ, List.getElem_toArray, List.getElem_cons_zero, List.getElem_cons_succ]
                refine Seq.take_lat (i := 12) (v := ?_) rfl (by kernel_rfl) (by kernel_rfl) (by kernel_rfl) (fun _ _ _ h => h) (by rfl) ?_ ?_
                rotate_left
                · intro w' hLat; change Below _ _ _ at hLat; go_simp <;> with_reducible rfl
                try simp only [Act.put, List.setIfInBounds_toArray, List.set_cons_zero, List.set_cons_succ, List.getElem_toArray, List.getElem_cons_zero, List.getElem_cons_succ]
                refine Seq.take_lat (i := 13) (v := ?_) rfl (by kernel_rfl) (by kernel_rfl) (by kernel_rfl) (fun _ _ _ h => h) (by rfl) ?_ ?_
                rotate_left
                · intro w' hLat; change Below _ _ _ at hLat; go_simp <;> with_reducible rfl
                try simp only [Act.put, List.setIfInBounds_toArray, List.set_cons_zero, List.set_cons_succ, List.getElem_toArray, List.getElem_cons_zero, List.getElem_cons_succ]
                refine wpAnyH_done (by kernel_rfl) ?_ _
                go_wp2
                go_ret
                exact ⟨rfl, HD.out.2⟩
            · obtain ⟨hE, hTD⟩ := HF.out hv
              subst hE
              have f0 : (48 : Int) ≤ c := by omega
              have f1 : ¬ c ≤ 57 := by omega
              have f1' : decide (c ≤ 57) = false := by simp; omega
              have f2 : (97 : Int) ≤ c := q2
              have f3 : c ≤ 102 := q3
              by_cases hcy : c = y
              · subst hcy
                have hTD' : decide (T = D) = true := by rw [hTD]; simp
                have eTD := eq25 T D hTl hl
                rw [hTD'] at eTD
                clear hTD hTD'
                go_wp2
                refine Seq.begin_any (by kernel_rfl) (fun wd hd => ?_)
                have HD : Box (Way w wd [(g11, T), (w.heap.size, D)]) := ⟨HZ.out.on hd⟩
                clear hd
                refine Seq.take_lat (i := 0) (v := ?_) rfl (by kernel_rfl) (by kernel_rfl) (by kernel_rfl) (fun _ _ _ h => h) (by rfl) ?_ ?_
                rotate_left
                · intro w' hLat; change Below _ _ _ at hLat; go_simp <;> with_reducible rfl
                try simp only [Act.put, List.setIfInBounds_toArray, List.set_cons_zero, List.set_cons_succ, List.getElem_toArray, List.getElem_cons_zero]
                refine Seq.take_lat (i := 1) (v := ?_) rfl (by kernel_rfl) (by kernel_rfl) (by kernel_rfl) (fun _ _ _ h => h) (by rfl) ?_ ?_
                rotate_left
                · intro w' hLat; change Below _ _ _ at hLat; go_simp <;> with_reducible rfl
                try simp only [Act.put, List.setIfInBounds_toArray, List.set_cons_zero, List.set_cons_succ, List.getElem_toArray, List.getElem_cons_zero, List.getElem_cons_succ]
                refine Seq.take_lat (i := 2) (v := ?_) rfl (by kernel_rfl) (by kernel_rfl) (by kernel_rfl) (fun _ _ _ h => h) (by rfl) ?_ ?_
                rotate_left
                · intro w' hLat; change Below _ _ _ at hLat; go_simp <;> with_reducible rfl
                try simp only [Act.put, List.setIfInBounds_toArray, List.set_cons_zero, List.set_cons_succ, List.getElem_toArray, List.getElem_cons_zero, List.getElem_cons_succ]
                refine Seq.take_lat (i := 3) (v := .agg (u8s T)) rfl (by kernel_rfl) (by kernel_rfl) (by kernel_rfl) (fun _ _ _ h => h) (by rfl) (fun w' hLat => exec_load25 (.tmp 11) rfl g11 rfl T _ (HD.out.1.below hLat) (.head _)) ?_
                try simp only [Act.put, List.setIfInBounds_toArray, List.set_cons_zero, List.set_cons_succ, List.getElem_toArray, List.getElem_cons_zero, List.getElem_cons_succ]
                refine Seq.take_lat (i := 4) (v := .agg (u8s D)) rfl (by kernel_rfl) (by kernel_rfl) (by kernel_rfl) (fun _ _ _ h => h) (by rfl) (fun w' hLat => exec_load25 (.tmp 3) rfl w.heap.size rfl D _ (HD.out.1.below hLat) (.tail _ (.head _))) ?_
                try simp only [Act.put, List.setIfInBounds_toArray, List.set_cons_zero, List.set_cons_succ, List.getElem_toArray, List.getElem_cons_zero, List.getElem_cons_succ]
                refine Seq.take_lat (i := 5) (v := ?_) rfl (by kernel_rfl) (by kernel_rfl) (by kernel_rfl) (fun _ _ _ h => h) (by rfl) ?_ ?_
                rotate_left
                · intro w' hLat; change Below _ _ _ at hLat; go_simp <;> with_reducible rfl
                try simp only [Act.put, List.setIfInBounds_toArray, List.set_cons_zero, List.set_cons_succ, List.getElem_toArray, List.getElem_cons_zero, List.getElem_cons_succ]
                refine Seq.take_lat (i := 6) (v := ?_) rfl (by kernel_rfl) (by kernel_rfl) (by kernel_rfl) (fun _ _ _ h => h) (by rfl) ?_ ?_
                rotate_left
                · intro w' hLat; change Below _ _ _ at hLat; go_simp <;> with_reducible rfl
                try simp only [Act.put, List.setIfInBounds_toArray, List.set_cons_zero, List.set_cons_succ, List.getElem_toArray, List.getElem_cons_zero, List.getElem_cons_succ]
                refine Seq.take_lat (i := 7) (v := ?_) rfl (by kernel_rfl) (by kernel_rfl) (by kernel_rfl) (fun _ _ _ h => h) (by rfl) ?_ ?_
                rotate_left
                · intro w' hLat; change Below _ _ _ at hLat; go_simp <;> with_reducible rfl
                try simp only [Act.put, List.setIfInBounds_toArray, List.set_cons_zero, List.set_cons_succ, List.getElem_toArray, List.getElem_cons_zero, List.getElem_cons_succ]
                refine Seq.take_lat (i := 8) (v := ?_) rfl (by kernel_rfl) (by kernel_rfl) (by kernel_rfl) (fun _ _ _ h => h) (by rfl) ?_ ?_
                rotate_left
                · intro w' hLat; change Below _ _ _ at hLat; go_simp <;> with_reducible rfl
                try simp only [Act.put, List.setIfInBounds_toArray, List.set_cons_zero, List.set_cons_succ, List.getElem_toArray, List.getElem_cons_zero, List.getElem_cons_succ]
                refine Seq.take_lat (i := 9) (v := ?_) rfl (by kernel_rfl) (by kernel_rfl) (by kernel_rfl) (fun _ _ _ h => h) (by rfl) ?_ ?_
                rotate_left
                · intro w' hLat; change Below _ _ _ at hLat; go_simp <;> with_reducible rfl
                try simp only [Act.put, List.setIfInBounds_toArray, List.set_cons_zero, List.set_cons_succ, List.getElem_toArray, List.getElem_cons_zero, List.getElem_cons_succ]
                refine Seq.take_lat (i := 10) (v := ?_) rfl (by kernel_rfl) (by kernel_rfl) (by kernel_rfl) (fun _ _ _ h => h) (by rfl) ?_ ?_
                rotate_left
                · intro w' hLat; change Below _ _ _ at hLat; go_simp <;> with_reducible rfl
                try simp only [Act.put, List.setIfInBounds_toArray, List.set_cons_zero, List.set_cons_succ, List.getElem_toArray, List.getElem_cons_zero, List.getElem_cons_succ]
                refine Seq.take_lat (i := 11) (v := ?_) rfl (by kernel_rfl) (by kernel_rfl) (by kernel_rfl) (fun _ _ _ h => h) (by rfl) ?_ ?_
                rotate_left
                · intro w' hLat; change Below _ _ _ at hLat; go_simp <;> with_reducible rfl
                try simp only [Act.put, List.setIfInBounds_toArray, List.set_cons_zero, List.set_cons_succ, List.getElem_toArray, List.getElem_cons_zero, List.getElem_cons_succ]
                refine Seq.take_lat (i := 12) (v := ?_) rfl (by kernel_rfl) (by kernel_rfl) (by kernel_rfl) (fun _ _ _ h => h) (by rfl) ?_ ?_
                rotate_left
                · intro w' hLat; change Below _ _ _ at hLat; go_simp <;> with_reducible rfl
                try simp only [Act.put, List.setIfInBounds_toArray, List.set_cons_zero, List.set_cons_succ, List.getElem_toArray, List.getElem_cons_zero, List.getElem_cons_succ]
                refine Seq.take_lat (i := 13) (v := ?_) rfl (by kernel_rfl) (by kernel_rfl) (by kernel_rfl) (fun _ _ _ h => h) (by rfl) ?_ ?_
                rotate_left
                · intro w' hLat; change Below _ _ _ at hLat; go_simp <;> with_reducible rfl
                try simp only [Act.put, List.setIfInBounds_toArray, List.set_cons_zero, List.set_cons_succ, List.getElem_toArray, List.getElem_cons_zero, List.getElem_cons_succ]
                refine wpAnyH_done (by kernel_rfl) ?_ _
                go_wp2
                go_ret
                exact ⟨rfl, HD.out.2⟩
              · have hTD' : decide (T = D) = false := by rw [hTD]; simpa using hcy
                have hcy' : (c == y) = false := by simpa using hcy
                have eTD := eq25 T D hTl hl
                rw [hTD'] at eTD
                clear hTD hTD'
                go_wp2
                refine Seq.begin_any (by kernel_rfl) (fun wd hd => ?_)
                have HD : Box (Way w wd [(g11, T), (w.heap.size, D)]) := ⟨HZ.out.on hd⟩
                clear hd
                refine Seq.take_lat (i := 0) (v := ?_) rfl (by kernel_rfl) (by kernel_rfl) (by kernel_rfl) (fun _ _ _ h => h) (by rfl) ?_ ?_
                rotate_left
                · intro w' hLat; change Below _ _ _ at hLat; go_simp <;> with_reducible rfl
                try simp only [Act.put, List.setIfInBounds_toArray, List.set_cons_zero, List.set_cons_succ, List.getElem_toArray, List.getElem_cons_zero]
                refine Seq.take_lat (i := 1) (v := ?_) rfl (by kernel_rfl) (by kernel_rfl) (by kernel_rfl) (fun _ _ _ h => h) (by rfl) ?_ ?_
                rotate_left
                · intro w' hLat; change Below _ _ _ at hLat; go_simp <;> with_reducible rfl
                try simp only [Act.put, List.setIfInBounds_toArray, List.set_cons_zero, List.set_cons_succ, List.getElem_toArray, List.getElem_cons_zero, List.getElem_cons_succ]
                refine Seq.take_lat (i := 2) (v := ?_) rfl (by kernel_rfl) (by kernel_rfl) (by kernel_rfl) (fun _ _ _ h => h) (by rfl) ?_ ?_
                rotate_left
                · intro w' hLat; change Below _ _ _ at hLat; go_simp <;> with_reducible rfl
                try simp only [Act.put, List.setIfInBounds_toArray, List.set_cons_zero, List.set_cons_succ, List.getElem_toArray, List.getElem_cons_zero, List.getElem_cons_succ]
                refine Seq.take_lat (i := 3) (v := .agg (u8s T)) rfl (by kernel_rfl) (by kernel_rfl) (by kernel_rfl) (fun _ _ _ h => h) (by rfl) (fun w' hLat => exec_load25 (.tmp 11) rfl g11 rfl T _ (HD.out.1.below hLat) (.head _)) ?_
                try simp only [Act.put, List.setIfInBounds_toArray, List.set_cons_zero, List.set_cons_succ, List.getElem_toArray, List.getElem_cons_zero, List.getElem_cons_succ]
                refine Seq.take_lat (i := 4) (v := .agg (u8s D)) rfl (by kernel_rfl) (by kernel_rfl) (by kernel_rfl) (fun _ _ _ h => h) (by rfl) (fun w' hLat => exec_load25 (.tmp 3) rfl w.heap.size rfl D _ (HD.out.1.below hLat) (.tail _ (.head _))) ?_
                try simp only [Act.put, List.setIfInBounds_toArray, List.set_cons_zero, List.set_cons_succ, List.getElem_toArray, List.getElem_cons_zero, List.getElem_cons_succ]
                refine Seq.take_lat (i := 5) (v := ?_) rfl (by kernel_rfl) (by kernel_rfl) (by kernel_rfl) (fun _ _ _ h => h) (by rfl) ?_ ?_
                rotate_left
                · intro w' hLat; change Below _ _ _ at hLat; go_simp <;> with_reducible rfl
                try simp only [Act.put, List.setIfInBounds_toArray, List.set_cons_zero, List.set_cons_succ, List.getElem_toArray, List.getElem_cons_zero, List.getElem_cons_succ]
                refine Seq.take_lat (i := 6) (v := ?_) rfl (by kernel_rfl) (by kernel_rfl) (by kernel_rfl) (fun _ _ _ h => h) (by rfl) ?_ ?_
                rotate_left
                · intro w' hLat; change Below _ _ _ at hLat; go_simp <;> with_reducible rfl
                try simp only [Act.put, List.setIfInBounds_toArray, List.set_cons_zero, List.set_cons_succ, List.getElem_toArray, List.getElem_cons_zero, List.getElem_cons_succ]
                refine Seq.take_lat (i := 7) (v := ?_) rfl (by kernel_rfl) (by kernel_rfl) (by kernel_rfl) (fun _ _ _ h => h) (by rfl) ?_ ?_
                rotate_left
                · intro w' hLat; change Below _ _ _ at hLat; go_simp <;> with_reducible rfl
                try simp only [Act.put, List.setIfInBounds_toArray, List.set_cons_zero, List.set_cons_succ, List.getElem_toArray, List.getElem_cons_zero, List.getElem_cons_succ]
                refine Seq.take_lat (i := 8) (v := ?_) rfl (by kernel_rfl) (by kernel_rfl) (by kernel_rfl) (fun _ _ _ h => h) (by rfl) ?_ ?_
                rotate_left
                · intro w' hLat; change Below _ _ _ at hLat; go_simp <;> with_reducible rfl
                try simp only [Act.put, List.setIfInBounds_toArray, List.set_cons_zero, List.set_cons_succ, List.getElem_toArray, List.getElem_cons_zero, List.getElem_cons_succ]
                refine Seq.take_lat (i := 9) (v := ?_) rfl (by kernel_rfl) (by kernel_rfl) (by kernel_rfl) (fun _ _ _ h => h) (by rfl) ?_ ?_
                rotate_left
                · intro w' hLat; change Below _ _ _ at hLat; go_simp <;> with_reducible rfl
                try simp only [Act.put, List.setIfInBounds_toArray, List.set_cons_zero, List.set_cons_succ, List.getElem_toArray, List.getElem_cons_zero, List.getElem_cons_succ]
                refine Seq.take_lat (i := 10) (v := ?_) rfl (by kernel_rfl) (by kernel_rfl) (by kernel_rfl) (fun _ _ _ h => h) (by rfl) ?_ ?_
                rotate_left
                · intro w' hLat; change Below _ _ _ at hLat; go_simp <;> with_reducible rfl
                try simp only [Act.put, List.setIfInBounds_toArray, List.set_cons_zero, List.set_cons_succ, List.getElem_toArray, List.getElem_cons_zero, List.getElem_cons_succ]
                refine Seq.take_lat (i := 11) (v := ?_) rfl (by kernel_rfl) (by kernel_rfl) (by kernel_rfl) (fun _ _ _ h => h) (by rfl) ?_ ?_
                rotate_left
                · intro w' hLat; change Below _ _ _ at hLat; go_simp <;> with_reducible rfl
                try simp only [Act.put, List.setIfInBounds_toArray, List.set_cons_zero, List.set_cons_succ, List.getElem_toArray, List.getElem_cons_zero, List.getElem_cons_succ]
                refine Seq.take_lat (i := 12) (v := ?_) rfl (by kernel_rfl) (by kernel_rfl) (by kernel_rfl) (fun _ _ _ h => h) (by rfl) ?_ ?_
                rotate_left
                · intro w' hLat; change Below _ _ _ at hLat; go_simp <;> with_reducible rfl
                try simp only [Act.put, List.setIfInBounds_toArray, List.set_cons_zero, List.set_cons_succ, List.getElem_toArray, List.getElem_cons_zero, List.getElem_cons_succ]
                refine Seq.take_lat (i := 13) (v := ?_) rfl (by kernel_rfl) (by kernel_rfl) (by kernel_rfl) (fun _ _ _ h => h) (by rfl) ?_ ?_
                rotate_left
                · intro w' hLat; change Below _ _ _ at hLat; go_simp <;> with_reducible rfl
                try simp only [Act.put, List.setIfInBounds_toArray, List.set_cons_zero, List.set_cons_succ, List.getElem_toArray, List.getElem_cons_zero, List.getElem_cons_succ]
                refine wpAnyH_done (by kernel_rfl) ?_ _
                go_wp2
                go_ret
                exact ⟨rfl, HD.out.2⟩
            · obtain ⟨hE, hTZ⟩ := HG.out hv
              subst hE
              have f1 : ¬ (48 : Int) ≤ c := by omega
              have f1' : decide ((48 : Int) ≤ c) = false := by simp; omega
              have f2 : ¬ (97 : Int) ≤ c := by omega
              have f2' : decide ((97 : Int) ≤ c) = false := by simp; omega
              have eTZ := eq_same25 T hTl
              have HTF : Box (fil8 [] 32 = u8s T) := ⟨by rw [hTZ]; rfl⟩
              clear hTZ
              go_wp2_with (first | (refine wpList_see25 g11 T _ HZ.out.1 (.head _) (.tmp 11) rfl rfl (by rfl) ?_) | (refine wpList_wbuild25 (by rfl) rfl ?_; rw [HTF.out]))
              go_ret
              exact ⟨rfl, HZ.out.2⟩
            · obtain ⟨hE, hTZ⟩ := HG.out hv
              subst hE
              have f0 : (48 : Int) ≤ c := by omega
              have f1 : ¬ c ≤ 57 := by omega
              have f1' : decide (c ≤ 57) = false := by simp; omega
              have f2 : ¬ (97 : Int) ≤ c := by omega
              have f2' : decide ((97 : Int) ≤ c) = false := by simp; omega
              have eTZ := eq_same25 T hTl
              have HTF : Box (fil8 [] 32 = u8s T) := ⟨by rw [hTZ]; rfl⟩
              clear hTZ
              go_wp2_with (first | (refine wpList_see25 g11 T _ HZ.out.1 (.head _) (.tmp 11) rfl rfl (by rfl) ?_) | (refine wpList_wbuild25 (by rfl) rfl ?_; rw [HTF.out]))
              go_ret
              exact ⟨rfl, HZ.out.2⟩
            · obtain ⟨hE, hTZ⟩ := HG.out hv
              subst hE
              have f0 : (48 : Int) ≤ c := by omega
              have f1 : ¬ c ≤ 57 := by omega
              have f1' : decide (c ≤ 57) = false := by simp; omega
              have f2 : (97 : Int) ≤ c := by omega
              have f3 : ¬ c ≤ 102 := by omega
              have f3' : decide (c ≤ 102) = false := by simp; omega
              have eTZ := eq_same25 T hTl
              have HTF : Box (fil8 [] 32 = u8s T) := ⟨by rw [hTZ]; rfl⟩
              clear hTZ
              go_wp2_with (first | (refine wpList_see25 g11 T _ HZ.out.1 (.head _) (.tmp 11) rfl rfl (by rfl) ?_) | (refine wpList_wbuild25 (by rfl) rfl ?_; rw [HTF.out]))
              go_ret
              exact ⟨rfl, HZ.out.2⟩
        · rw [if_pos (by rfl)]
          refine wp_al25 rfl ?_
          intro x9 g11 HX9'
          rw [HZZ.out] at HX9'
          have HX9 : Box (Way w x9 [(g11, Z), (w.heap.size, D)] ∧ Bytes x9 (some ⟨g4, 0, none⟩) 1 [c]) := ⟨way_add HX1.out.1 HX9'.out.2.1 HX9'.out.1 hZl, HX1.out.2.below HX9'.out.2.1⟩
          have hg11 : w.heap.size < g11 := way_lt HX1.out.1 HX9'.out.2.2
          clear HX9'
          refine hK _ _ ?_
          clear hK K
          try simp only [Act.put, List.setIfInBounds_toArray, List.set_cons_zero, List.set_cons_succ, List.getElem_toArray, List.getElem_cons_zero, List.getElem_cons_succ]
          refine wpAny_ready (rs := [5]) (by kernel_rfl) (by simp) ?_
          refine (AllReady.cons rfl (fun K hK => ?_) AllReady.nil)
          rw [if_pos (by rfl)]
          refine wp_cv (.tmp 56) rfl g4 c rfl HX9.out.2 ?_
          rw [HQ.out]
          refine hK _ _ ?_
          have HX10 : Box (Way w x9 [(g11, Z), (w.heap.size, D)] ∧ True) := ⟨HX9.out.1, trivial⟩
          clear hK K
          try simp only [Act.put, List.setIfInBounds_toArray, List.set_cons_zero, List.set_cons_succ, List.getElem_toArray, List.getElem_cons_zero, List.getElem_cons_succ]
          refine wpAny_take (i := 6) (v := ?_) rfl (by kernel_rfl) (by kernel_rfl) (by kernel_rfl) (fun _ _ _ h => h) (Or.inl ⟨by rfl, ?_⟩) ?_
          rotate_left
          · intro w'; go_simp <;> with_reducible rfl
          try simp only [Act.put, List.setIfInBounds_toArray, List.set_cons_zero, List.set_cons_succ, List.getElem_toArray, List.getElem_cons_zero, List.getElem_cons_succ]
          refine wpAny_take (i := 11) (v := ?_) rfl (by kernel_rfl) (by kernel_rfl) (by kernel_rfl) (fun _ _ _ h => h) (Or.inl ⟨by rfl, ?_⟩) ?_
          rotate_left
          · intro w'; go_simp <;> with_reducible rfl
          try simp only [Act.put, List.setIfInBounds_toArray, List.set_cons_zero, List.set_cons_succ, List.getElem_toArray, List.getElem_cons_zero, List.getElem_cons_succ]
          refine wpAny_ready (rs := [12]) (by kernel_rfl) (by simp) ?_
          refine (AllReady.cons rfl (fun K hK => ?_) AllReady.nil)
          rw [if_pos (by rfl)]
          go_simp
          rw [HPS.out]
          refine Calls.mono (HRD.out x9) ?_
          rintro e x11 ⟨rfl, hb⟩
          have HX11 : Box (Way w x11 [(g11, Z), (w.heap.size, D)] ∧ True) := ⟨HX10.out.1.on hb, trivial⟩
          clear hb
          refine hK _ _ ?_
          clear hK K
          try simp only [Act.put, List.setIfInBounds_toArray, List.set_cons_zero, List.set_cons_succ, List.getElem_toArray, List.getElem_cons_zero, List.getElem_cons_succ]
          refine wpAny_take (i := 13) (v := ?_) rfl (by kernel_rfl) (by kernel_rfl) (by kernel_rfl) (fun _ _ _ h => h) (Or.inl ⟨by rfl, ?_⟩) ?_
          rotate_left
          · intro w'; go_simp <;> with_reducible rfl
          try simp only [Act.put, List.setIfInBounds_toArray, List.set_cons_zero, List.set_cons_succ, List.getElem_toArray, List.getElem_cons_zero, List.getElem_cons_succ]
          refine wpAny_take (i := 14) (v := ?_) rfl (by kernel_rfl) (by kernel_rfl) (by kernel_rfl) (fun _ _ _ h => h) (Or.inl ⟨by rfl, ?_⟩) ?_
          rotate_left
          · intro w'; go_simp <;> with_reducible rfl
          try simp only [Act.put, List.setIfInBounds_toArray, List.set_cons_zero, List.set_cons_succ, List.getElem_toArray, List.getElem_cons_zero, List.getElem_cons_succ]
          refine wpAny_take (i := 15) (v := ?_) rfl (by kernel_rfl) (by kernel_rfl) (by kernel_rfl) (fun _ _ _ h => h) (Or.inl ⟨by rfl, ?_⟩) ?_
          rotate_left
          · intro w'; go_simp <;> with_reducible rfl
          try simp only [Act.put, List.setIfInBounds_toArray, List.set_cons_zero, List.set_cons_succ, List.getElem_toArray, List.getElem_cons_zero, List.getElem_cons_succ]
          refine wpAny_ready (rs := [17]) (by kernel_rfl) (by simp) ?_
          refine AllReady.cons rfl (fun K hK => ?_) AllReady.nil
          rw [if_pos (by rfl)]
          refine wp_st25 (.tmp 11) (.tmp 65) rfl g11 T hTl rfl rfl HX11.out.1 hg11 ?_
          intro x9 HZ
          refine hK _ _ ?_
          clear hK K
          refine wpAny_take (i := 18) (v := ?_) rfl (by kernel_rfl) (by kernel_rfl) (by kernel_rfl) (fun _ _ _ h => h) (Or.inl ⟨by rfl, ?_⟩) ?_
          rotate_left
          · intro w'; go_simp <;> with_reducible rfl
          try simp only [Act.put, List.setIfInBounds_toArray, List.set_cons_zero, List.set_cons_succ, List.getElem_toArray, List.getElem_cons_zero, List.getElem_cons_succ]
          refine wpAny_done (by kernel_rfl) ?_ _
          rcases hcls with ⟨hv, q1, q2⟩ | ⟨hv, q1, q2, q3⟩ | ⟨hv, q1⟩ | ⟨hv, q1, q2⟩ | ⟨hv, q1⟩
          · obtain ⟨hE, hTD⟩ := HF.out hv
            subst hE
            have f1 : (48 : Int) ≤ c := q1
            have f2 : c ≤ 57 := q2
            by_cases hcy : c = y
            · subst hcy
              have hTD' : decide (T = D) = true := by rw [hTD]; simp
              have eTD := eq25 T D hTl hl
              rw [hTD'] at eTD
              clear hTD hTD'
              go_wp2
              refine Seq.begin_any (by kernel_rfl) (fun wd hd => ?_)
              have HD : Box (Way w wd [(g11, T), (w.heap.size, D)]) := ⟨HZ.out.on hd⟩
              clear hd
              refine Seq.take_lat (i := 0) (v := ?_) rfl (by kernel_rfl) (by kernel_rfl) (by kernel_rfl) (fun _ _ _ h => h) (by rfl) ?_ ?_
              rotate_left
              · intro w' hLat; change Below _ _ _ at hLat; go_simp <;> with_reducible rfl
              try simp only [Act.put, List.setIfInBounds_toArray, List.set_cons_zero, List.set_cons_succ, List.getElem_toArray, List.getElem_cons_zero]
              refine Seq.take_lat (i := 1) (v := ?_) rfl (by kernel_rfl) (by kernel_rfl) (by kernel_rfl) (fun _ _ _ h => h) (by rfl) ?_ ?_
              rotate_left
              · intro w' hLat; change Below _ _ _ at hLat; go_simp <;> with_reducible rfl
              try simp only [Act.put, List.setIfInBounds_toArray, List.set_cons_zero, List.set_cons_succ, List.getElem_toArray, List.getElem_cons_zero, List.getElem_cons_succ]
              refine Seq.take_lat (i := 2) (v := ?_) rfl (by kernel_rfl) (by kernel_rfl) (by kernel_rfl) (fun _ _ _ h => h) (by rfl) ?_ ?_
              rotate_left
              · intro w' hLat; change Below _ _ _ at hLat; go_simp <;> with_reducible rfl
              try simp only [Act.put, List.setIfInBounds_toArray, List.set_cons_zero, List.set_cons_succ, List.getElem_toArray, List.getElem_cons_zero, List.getElem_cons_succ]
              refine Seq.take_lat (i := 3) (v := .agg (u8s T)) rfl (by kernel_rfl) (by kernel_rfl) (by kernel_rfl) (fun _ _ _ h => h) (by rfl) (fun w' hLat => exec_load25 (.tmp 11) rfl g11 rfl T _ (HD.out.1.below hLat) (.head _)) ?_
              try simp only [Act.put, List.setIfInBounds_toArray, List.set_cons_zero, List.set_cons_succ, List.getElem_toArray, List.getElem_cons_zero, List.getElem_cons_succ]
              refine Seq.take_lat (i := 4) (v := .agg (u8s D)) rfl (by kernel_rfl) (by kernel_rfl) (by kernel_rfl) (fun _ _ _ h => h) (by rfl) (fun w' hLat => exec_load25 (.tmp 3) rfl w.heap.size rfl D _ (HD.out.1.below hLat) (.tail _ (.head _))) ?_
              try simp only [Act.put, List.setIfInBounds_toArray, List.set_cons_zero, List.set_cons_succ, List.getElem_toArray, List.getElem_cons_zero, List.getElem_cons_succ]
              refine Seq.take_lat (i := 5) (v := ?_) rfl (by kernel_rfl) (by kernel_rfl) (by kernel_rfl) (fun _ _ _ h => h) (by rfl) ?_ ?_
              rotate_left
              · intro w' hLat; change Below _ _ _ at hLat; go_simp <;> with_reducible rfl
              try simp only [Act.put, List.setIfInBounds_toArray, List.set_cons_zero, List.set_cons_succ, List.getElem_toArray, List.getElem_cons_zero, List.getElem_cons_succ]
              refine Seq.take_lat (i := 6) (v := ?_) rfl (by kernel_rfl) (by kernel_rfl) (by kernel_rfl) (fun _ _ _ h => h) (by rfl) ?_ ?_
              rotate_left
              · intro w' hLat; change Below _ _ _ at hLat; go_simp <;> with_reducible rfl
              try simp only [Act.put, List.setIfInBounds_toArray, List.set_cons_zero, List.set_cons_succ, List.getElem_toArray, List.getElem_cons_zero, List.getElem_cons_succ]
              refine Seq.take_lat (i := 7) (v := ?_) rfl (by kernel_rfl) (by kernel_rfl) (by kernel_rfl) (fun _ _ _ h => h) (by rfl) ?_ ?_
              rotate_left
              · intro w' hLat; change Below _ _ _ at hLat; go_simp <;> with_reducible rfl
              try simp only [Act.put, List.setIfInBounds_toArray, List.set_cons_zero, List.set_cons_succ, List.getElem_toArray, List.getElem_cons_zero, List.getElem_cons_succ]
              refine Seq.take_lat (i := 8) (v := ?_) rfl (by kernel_rfl) (by kernel_rfl) (by kernel_rfl) (fun _ _ _ h => h) (by rfl) ?_ ?_
              rotate_left
              · intro w' hLat; change Below _ _ _ at hLat; go_simp <;> with_reducible rfl
              try simp only [Act.put, List.setIfInBounds_toArray, List.set_cons_zero, List.set_cons_succ, List.getElem_toArray, List.getElem_cons_zero, List.getElem_cons_succ]
              refine Seq.take_lat (i := 9) (v := ?_) rfl (by kernel_rfl) (by kernel_rfl) (by kernel_rfl) (fun _ _ _ h => h) (by rfl) ?_ ?_
              rotate_left
              · intro w' hLat; change Below _ _ _ at hLat; go_simp <;> with_reducible rfl
              try simp only [Act.put, List.setIfInBounds_toArray, List.set_cons_zero, List.set_cons_succ, List.getElem_toArray, List.getElem_cons_zero, List.getElem_cons_succ]
              refine Seq.take_lat (i := 10) (v := ?_) rfl (by kernel_rfl) (by kernel_rfl) (by kernel_rfl) (fun _ _ _ h => h) (by rfl) ?_ ?_
              rotate_left
              · intro w' hLat; change Below _ _ _ at hLat; go_simp <;> with_reducible rfl
              try simp only [Act.put, List.setIfInBounds_toArray, List.set_cons_zero, List.set_cons_succ, List.getElem_toArray, List.getElem_cons_zero, List.getElem_cons_succ]
              refine Seq.take_lat (i := 11) (v := ?_) rfl (by kernel_rfl) (by kernel_rfl) (by kernel_rfl) (fun _ _ _ h => h) (by rfl) ?_ ?_
              rotate_left
              · intro w' hLat; change Below _ _ _ at hLat; go_simp <;> with_reducible rfl
              try simp only [Act.put, List.setIfInBounds_toArray, List.set_cons_zero, List.set_cons_succ, List.getElem_toArray, List.getElem_cons_zero, List.getElem_cons_succ]
              refine Seq.take_lat (i := 12) (v := ?_) rfl (by kernel_rfl) (by kernel_rfl) (by kernel_rfl) (fun _ _ _ h => h) (by rfl) ?_ ?_
              rotate_left
              · intro w' hLat; change Below _ _ _ at hLat; go_simp <;> with_reducible rfl
              try simp only [Act.put, List.setIfInBounds_toArray, List.set_cons_zero, List.set_cons_succ, List.getElem_toArray, List.getElem_cons_zero, List.getElem_cons_succ]
              refine Seq.take_lat (i := 13) (v := ?_) rfl (by kernel_rfl) (by kernel_rfl) (by kernel_rfl) (fun _ _ _ h => h) (by rfl) ?_ ?_
              rotate_left
              · intro w' hLat; change Below _ _ _ at hLat; go_simp <;> with_reducible rfl
              try simp only [Act.put, List.setIfInBounds_toArray, List.set_cons_zero, List.set_cons_succ, List.getElem_toArray, List.getElem_cons_zero, List.getElem_cons_succ]
              refine wpAnyH_done (by kernel_rfl) ?_ _
              go_wp2
              go_ret
              exact ⟨rfl, HD.out.2⟩
            · have hTD' : decide (T = D) = false := by rw [hTD]; simpa using hcy
              have hcy' : (c == y) = false := by simpa using hcy
              have eTD := eq25 T D hTl hl
              rw [hTD'] at eTD
              clear hTD hTD'
              go_wp2
              refine Seq.begin_any (by kernel_rfl) (fun wd hd => ?_)
              have HD : Box (Way w wd [(g11, T), (w.heap.size, D)]) := ⟨HZ.out.on hd⟩
              clear hd
              refine Seq.take_lat (i := 0) (v := ?_) rfl (by kernel_rfl) (by kernel_rfl) (by kernel_rfl) (fun _ _ _ h => h) (by rfl) ?_ ?_
              rotate_left
              · intro w' hLat; change Below _ _ _ at hLat; go_simp <;> with_reducible rfl
              try simp only [Act.put, List.setIfInBounds_toArray, List.set_cons_zero, List.set_cons_succ, List.getElem_toArray, List.getElem_cons_zero]
              refine Seq.take_lat (i := 1) (v := ?_) rfl (by kernel_rfl) (by kernel_rfl) (by kernel_rfl) (fun _ _ _ h => h) (by rfl) ?_ ?_
              rotate_left
              · intro w' hLat; change Below _ _ _ at hLat; go_simp <;> with_reducible rfl
              try simp only [Act.put, List.setIfInBounds_toArray, List.set_cons_zero, List.set_cons_succ, List.getElem_toArray, List.getElem_cons_zero, List.getElem_cons_succ]
              refine Seq.take_lat (i := 2) (v := ?_) rfl (by kernel_rfl) (by kernel_rfl) (by kernel_rfl) (fun _ _ _ h => h) (by rfl) ?_ ?_
              rotate_left
              · intro w' hLat; change Below _ _ _ at hLat; go_simp <;> with_reducible rfl
              try simp only [Act.put, List.setIfInBounds_toArray, List.set_cons_zero, List.set_cons_succ, List.getElem_toArray, List.getElem_cons_zero, List.getElem_cons_succ]
              refine Seq.take_lat (i := 3) (v := .agg (u8s T)) rfl (by kernel_rfl) (by kernel_rfl) (by kernel_rfl) (fun _ _ _ h => h) (by rfl) (fun w' hLat => exec_load25 (.tmp 11) rfl g11 rfl T _ (HD.out.1.below hLat) (.head _)) ?_
              try simp only [Act.put, List.setIfInBounds_toArray, List.set_cons_zero, List.set_cons_succ, List.getElem_toArray, List.getElem_cons_zero, List.getElem_cons_succ]
              refine Seq.take_lat (i := 4) (v := .agg (u8s D)) rfl (by kernel_rfl) (by kernel_rfl) (by kernel_rfl) (fun _ _ _ h => h) (by rfl) (fun w' hLat => exec_load25 (.tmp 3) rfl w.heap.size rfl D _ (HD.out.1.below hLat) (.tail _ (.head _))) ?_
              try simp only [Act.put, List.setIfInBounds_toArray, List.set_cons_zero, List.set_cons_succ, List.getElem_toArray, List.getElem_cons_zero, List.getElem_cons_succ]
              refine Seq.take_lat (i := 5) (v := ?_) rfl (by kernel_rfl) (by kernel_rfl) (by kernel_rfl) (fun _ _ _ h => h) (by rfl) ?_ ?_
              rotate_left
              · intro w' hLat; change Below _ _ _ at hLat; go_simp <;> with_reducible rfl
              try simp only [Act.put, List.setIfInBounds_toArray, List.set_cons_zero, List.set_cons_succ, List.getElem_toArray, List.getElem_cons_zero, List.getElem_cons_succ]
              refine Seq.take_lat (i := 6) (v := ?_) rfl (by kernel_rfl) (by kernel_rfl) (by kernel_rfl) (fun _ _ _ h => h) (by rfl) ?_ ?_
              rotate_left
              · intro w' hLat; change Below _ _ _ at hLat; go_simp <;> with_reducible rfl
              try simp only [Act.put, List.setIfInBounds_toArray, List.set_cons_zero, List.set_cons_succ, List.getElem_toArray, List.getElem_cons_zero, List.getElem_cons_succ]
              refine Seq.take_lat (i := 7) (v := ?_) rfl (by kernel_rfl) (by kernel_rfl) (by kernel_rfl) (fun _ _ _ h => h) (by rfl) ?_ ?_
              rotate_left
              · intro w' hLat; change Below _ _ _ at hLat; go_simp <;> with_reducible rfl
              try simp only [Act.put, List.setIfInBounds_toArray, List.set_cons_zero, List.set_cons_succ, List.getElem_toArray, List.getElem_cons_zero, List.getElem_cons_succ]
              refine Seq.take_lat (i := 8) (v := ?_) rfl (by kernel_rfl) (by kernel_rfl) (by kernel_rfl) (fun _ _ _ h => h) (by rfl) ?_ ?_
              rotate_left
              · intro w' hLat; change Below _ _ _ at hLat; go_simp <;> with_reducible rfl
              try simp only [Act.put, List.setIfInBounds_toArray, List.set_cons_zero, List.set_cons_succ, List.getElem_toArray, List.getElem_cons_zero, List.getElem_cons_succ]
              refine Seq.take_lat (i := 9) (v := ?_) rfl (by kernel_rfl) (by kernel_rfl) (by kernel_rfl) (fun _ _ _ h => h) (by rfl) ?_ ?_
              rotate_left
              · intro w' hLat; change Below _ _ _ at hLat; go_simp <;> with_reducible rfl
              try simp only [Act.put, List.setIfInBounds_toArray, List.set_cons_zero, List.set_cons_succ, List.getElem_toArray, List.getElem_cons_zero, List.getElem_cons_succ]
              refine Seq.take_lat (i := 10) (v := ?_) rfl (by kernel_rfl) (by kernel_rfl) (by kernel_rfl) (fun _ _ _ h => h) (by rfl) ?_ ?_
              rotate_left
              · intro w' hLat; change Below _ _ _ at hLat; go_simp <;> with_reducible rfl
              try simp only [Act.put, List.setIfInBounds_toArray, List.set_cons_zero, List.set_cons_succ, List.getElem_toArray, List.getElem_cons_zero, List.getElem_cons_succ]
              refine Seq.take_lat (i := 11) (v := ?_) rfl (by kernel_rfl) (by kernel_rfl) (by kernel_rfl) (fun _ _ _ h => h) (by rfl) ?_ ?_
              rotate_left
              · intro w' hLat; change Below _ _ _ at hLat; go_simp <;> with_reducible rfl
              try simp only [Act.put, List.setIfInBounds_toArray, List.set_cons_zero, List.set_cons_succ, List.getElem_toArray, List.getElem_cons_zero, List.getElem_cons_succ]
              refine Seq.take_lat (i := 12) (v := ?_) rfl (by kernel_rfl) (by kernel_rfl) (by kernel_rfl) (fun _ _ _ h => h) (by rfl) ?_ ?_
              rotate_left
              · intro w' hLat; change Below _ _ _ at hLat; go_simp <;> with_reducible rfl
              try simp only [Act.put, List.setIfInBounds_toArray, List.set_cons_zero, List.set_cons_succ, List.getElem_toArray, List.getElem_cons_zero, List.getElem_cons_succ]
              refine Seq.take_lat (i := 13) (v := ?_) rfl (by kernel_rfl) (by kernel_rfl) (by kernel_rfl) (fun _ _ _ h => h) (by rfl) ?_ ?_
              rotate_left
              · intro w' hLat; change Below _ _ _ at hLat; go_simp <;> with_reducible rfl
              try simp only [Act.put, List.setIfInBounds_toArray, List.set_cons_zero, List.set_cons_succ, List.getElem_toArray, List.getElem_cons_zero, List.getElem_cons_succ]
              refine wpAnyH_done (by kernel_rfl) ?_ _
              go_wp2
              go_ret
              exact ⟨rfl, HD.out.2⟩
          · obtain ⟨hE, hTD⟩ := HF.out hv
            subst hE
            have f0 : (48 : Int) ≤ c := by omega
            have f1 : ¬ c ≤ 57 := by omega
            have f1' : decide (c ≤ 57) = false := by simp; omega
            have f2 : (97 : Int) ≤ c := q2
            have f3 : c ≤ 102 := q3
            by_cases hcy : c = y
            · subst hcy
              have hTD' : decide (T = D) = true := by rw [hTD]; simp
              have eTD := eq25 T D hTl hl
              rw [hTD'] at eTD
              clear hTD hTD'
              go_wp2
              refine Seq.begin_any (by kernel_rfl) (fun wd hd => ?_)
              have HD : Box (Way w wd [(g11, T), (w.heap.size, D)]) := ⟨HZ.out.on hd⟩
              clear hd
              refine Seq.take_lat (i := 0) (v := ?_) rfl (by kernel_rfl) (by kernel_rfl) (by kernel_rfl) (fun _ _ _ h => h) (by rfl) ?_ ?_
              rotate_left
              · intro w' hLat; change Below _ _ _ at hLat; go_simp <;> with_reducible rfl
              try simp only [Act.put, List.setIfInBounds_toArray, List.set_cons_zero, List.set_cons_succ, List.getElem_toArray, List.getElem_cons_zero]
              refine Seq.take_lat (i := 1) (v := ?_) rfl (by kernel_rfl) (by kernel_rfl) (by kernel_rfl) (fun _ _ _ h => h) (by rfl) ?_ ?_
              rotate_left
              · intro w' hLat; change Below _ _ _ at hLat; go_simp <;> with_reducible rfl
              try simp only [Act.put, List.setIfInBounds_toArray, List.set_cons_zero, List.set_cons_succ, List.getElem_toArray, List.getElem_cons_zero, List.getElem_cons_succ]
              refine Seq.take_lat (i := 2) (v := ?_) rfl (by kernel_rfl) (by kernel_rfl) (by kernel_rfl) (fun _ _ _ h => h) (by rfl) ?_ ?_
              rotate_left
              · intro w' hLat; change Below _ _ _ at hLat; go_simp <;> with_reducible rfl
              try simp only [Act.put, List.setIfInBounds_toArray, List.set_cons_zero, List.set_cons_succ, List.getElem_toArray, List.getElem_cons_zero, List.getElem_cons_succ]
              refine Seq.take_lat (i := 3) (v := .agg (u8s T)) rfl (by kernel_rfl) (by kernel_rfl) (by kernel_rfl) (fun _ _ _ h => h) (by rfl) (fun w' hLat => exec_load25 (.tmp 11) rfl g11 rfl T _ (HD.out.1.below hLat) (.head _)) ?_
              try simp only [Act.put, List.setIfInBounds_toArray, List.set_cons_zero, List.set_cons_succ, List.getElem_toArray, List.getElem_cons_zero, List.getElem_cons_succ]
              refine Seq.take_lat (i := 4) (v := .agg (u8s D)) rfl (by kernel_rfl) (by kernel_rfl) (by kernel_rfl) (fun _ _ _ h => h) (by rfl) (fun w' hLat => exec_load25 (.tmp 3) rfl w.heap.size rfl D _ (HD.out.1.below hLat) (.tail _ (.head _))) ?_
              try simp only [Act.put, List.setIfInBounds_toArray, List.set_cons_zero, List.set_cons_succ, List.getElem_toArray, List.getElem_cons_zero, List.getElem_cons_succ]
              refine Seq.take_lat (i := 5) (v := ?_) rfl (by kernel_rfl) (by kernel_rfl) (by kernel_rfl) (fun _ _ _ h => h) (by rfl) ?_ ?_
              rotate_left
              · intro w' hLat; change Below _ _ _ at hLat; go_simp <;> with_reducible rfl
              try simp only [Act.put, List.setIfInBounds_toArray, List.set_cons_zero, List.set_cons_succ, List.getElem_toArray, List.getElem_cons_zero, List.getElem_cons_succ]
              refine Seq.take_lat (i := 6) (v := ?_) rfl (by kernel_rfl) (by kernel_rfl) (by kernel_rfl) (fun _ _ _ h => h) (by rfl) ?_ ?_
              rotate_left
              · intro w' hLat; change Below _ _ _ at hLat; go_simp <;> with_reducible rfl
              try simp only [Act.put, List.setIfInBounds_toArray, List.set_cons_zero, List.set_cons_succ, List.getElem_toArray, List.getElem_cons_zero, List.getElem_cons_succ]
              refine Seq.take_lat (i := 7) (v := ?_) rfl (by kernel_rfl) (by kernel_rfl) (by kernel_rfl) (fun _ _ _ h => h) (by rfl) ?_ ?_
              rotate_left
              · intro w' hLat; change Below _ _ _ at hLat; go_simp <;> with_reducible rfl
              try simp only [Act.put, List.setIfInBounds_toArray, List.set_cons_zero, List.set_cons_succ, List.getElem_toArray, List.getElem_cons_zero, List.getElem_cons_succ]
              refine Seq.take_lat (i := 8) (v := ?_) rfl (by kernel_rfl) (by kernel_rfl) (by kernel_rfl) (fun _ _ _ h => h) (by rfl) ?_ ?_
              rotate_left
              · intro w' hLat; change Below _ _ _ at hLat; go_simp <;> with_reducible rfl
              try simp only [Act.put, List.setIfInBounds_toArray, List.set_cons_zero, List.set_cons_succ, List.getElem_toArray, List.getElem_cons_zero, List.getElem_cons_succ]
              refine Seq.take_lat (i := 9) (v := ?_) rfl (by kernel_rfl) (by kernel_rfl) (by kernel_rfl) (fun _ _ _ h => h) (by rfl) ?_ ?_
              rotate_left
              · intro w' hLat; change Below _ _ _ at hLat; go_simp <;> with_reducible rfl
              try simp only [Act.put, List.setIfInBounds_toArray, List.set_cons_zero, List.set_cons_succ, List.getElem_toArray, List.getElem_cons_zero, List.getElem_cons_succ]
              refine Seq.take_lat (i := 10) (v := ?_) rfl (by kernel_rfl) (by kernel_rfl) (by kernel_rfl) (fun _ _ _ h => h) (by rfl) ?_ ?_
              rotate_left
              · intro w' hLat; change Below _ _ _ at hLat; go_simp <;> with_reducible rfl
              try simp only [Act.put, List.setIfInBounds_toArray, List.set_cons_zero, List.set_cons_succ, List.getElem_toArray, List.getElem_cons_zero, List.getElem_cons_succ]
              refine Seq.take_lat (i := 11) (v := ?_) rfl (by kernel_rfl) (by kernel_rfl) (by kernel_rfl) (fun _ _ _ h => h) (by rfl) ?_ ?_
              rotate_left
              · intro w' hLat; change Below _ _ _ at hLat; go_simp <;> with_reducible rfl
              try simp only [Act.put, List.setIfInBounds_toArray, List.set_cons_zero, List.set_cons_succ, List.getElem_toArray, List.getElem_cons_zero, List.getElem_cons_succ]
              refine Seq.take_lat (i := 12) (v := ?_) rfl (by kernel_rfl) (by kernel_rfl) (by kernel_rfl) (fun _ _ _ h => h) (by rfl) ?_ ?_
              rotate_left
              · intro w' hLat; change Below _ _ _ at hLat; go_simp <;> with_reducible rfl
              try simp only [Act.put, List.setIfInBounds_toArray, List.set_cons_zero, List.set_cons_succ, List.getElem_toArray, List.getElem_cons_zero, List.getElem_cons_succ]
              refine Seq.take_lat (i := 13) (v := ?_) rfl (by kernel_rfl) (by kernel_rfl) (by kernel_rfl) (fun _ _ _ h => h) (by rfl) ?_ ?_
              rotate_left
              · intro w' hLat; change Below _ _ _ at hLat; go_simp <;> with_reducible rfl
              try simp only [Act.put, List.setIfInBounds_toArray, List.set_cons_zero, List.set_cons_succ, List.getElem_toArray, List.getElem_cons_zero, List.getElem_cons_succ]
              refine wpAnyH_done (by kernel_rfl) ?_ _
              go_wp2
              go_ret
              exact ⟨rfl, HD.out.2⟩
            · have hTD' : decide (T = D) = false := by rw [hTD]; simpa using hcy
              have hcy' : (c == y) = false := by simpa using hcy
              have eTD := eq25 T D hTl hl
              rw [hTD'] at eTD
              clear hTD hTD'
              go_wp2
              refine Seq.begin_any (by kernel_rfl) (fun wd hd => ?_)
              have HD : Box (Way w wd [(g11, T), (w.heap.size, D)]) := ⟨HZ.out.on hd⟩
              clear hd
              refine Seq.take_lat (i := 0) (v := ?_) rfl (by kernel_rfl) (by kernel_rfl) (by kernel_rfl) (fun _ _ _ h => h) (by rfl) ?_ ?_
              rotate_left
              · intro w' hLat; change Below _ _ _ at hLat; go_simp <;> with_reducible rfl
              try simp only [Act.put, List.setIfInBounds_toArray, List.set_cons_zero, List.set_cons_succ, List.getElem_toArray, List.getElem_cons_zero]
              refine Seq.take_lat (i := 1) (v := ?_) rfl (by kernel_rfl) (by kernel_rfl) (by kernel_rfl) (fun _ _ _ h => h) (by rfl) ?_ ?_
              rotate_left
              · intro w' hLat; change Below _ _ _ at hLat; go_simp <;> with_reducible rfl
              try simp only [Act.put, List.setIfInBounds_toArray, List.set_cons_zero, List.set_cons_succ, List.getElem_toArray, List.getElem_cons_zero, List.getElem_cons_succ]
              refine Seq.take_lat (i := 2) (v := ?_) rfl (by kernel_rfl) (by kernel_rfl) (by kernel_rfl) (fun _ _ _ h => h) (by rfl) ?_ ?_
              rotate_left
              · intro w' hLat; change Below _ _ _ at hLat; go_simp <;> with_reducible rfl
              try simp only [Act.put, List.setIfInBounds_toArray, List.set_cons_zero, List.set_cons_succ, List.getElem_toArray, List.getElem_cons_zero, List.getElem_cons_succ]
              refine Seq.take_lat (i := 3) (v := .agg (u8s T)) rfl (by kernel_rfl) (by kernel_rfl) (by kernel_rfl) (fun _ _ _ h => h) (by rfl) (fun w' hLat => exec_load25 (.tmp 11) rfl g11 rfl T _ (HD.out.1.below hLat) (.head _)) ?_
              try simp only [Act.put, List.setIfInBounds_toArray, List.set_cons_zero, List.set_cons_succ, List.getElem_toArray, List.getElem_cons_zero, List.getElem_cons_succ]
              refine Seq.take_lat (i := 4) (v := .agg (u8s D)) rfl (by kernel_rfl) (by kernel_rfl) (by kernel_rfl) (fun _ _ _ h => h) (by rfl) (fun w' hLat => exec_load25 (.tmp 3) rfl w.heap.size rfl D _ (HD.out.1.below hLat) (.tail _ (.head _))) ?_
              try simp only [Act.put, List.setIfInBounds_toArray, List.set_cons_zero, List.set_cons_succ, List.getElem_toArray, List.getElem_cons_zero, List.getElem_cons_succ]
              refine Seq.take_lat (i := 5) (v := ?_) rfl (by kernel_rfl) (by kernel_rfl) (by kernel_rfl) (fun _ _ _ h => h) (by rfl) ?_ ?_
              rotate_left
              · intro w' hLat; change Below _ _ _ at hLat; go_simp <;> with_reducible rfl
              try simp only [Act.put, List.setIfInBounds_toArray, List.set_cons_zero, List.set_cons_succ, List.getElem_toArray, List.getElem_cons_zero, List.getElem_cons_succ]
              refine Seq.take_lat (i := 6) (v := ?_) rfl (by kernel_rfl) (by kernel_rfl) (by kernel_rfl) (fun _ _ _ h => h) (by rfl) ?_ ?_
              rotate_left
              · intro w' hLat; change Below _ _ _ at hLat; go_simp <;> with_reducible rfl
              try simp only [Act.put, List.setIfInBounds_toArray, List.set_cons_zero, List.set_cons_succ, List.getElem_toArray, List.getElem_cons_zero, List.getElem_cons_succ]
              refine Seq.take_lat (i := 7) (v := ?_) rfl (by kernel_rfl) (by kernel_rfl) (by kernel_rfl) (fun _ _ _ h => h) (by rfl) ?_ ?_
              rotate_left
              · intro w' hLat; change Below _ _ _ at hLat; go_simp <;> with_reducible rfl
              try simp only [Act.put, List.setIfInBounds_toArray, List.set_cons_zero, List.set_cons_succ, List.getElem_toArray, List.getElem_cons_zero, List.getElem_cons_succ]
              refine Seq.take_lat (i := 8) (v := ?_) rfl (by kernel_rfl) (by kernel_rfl) (by kernel_rfl) (fun _ _ _ h => h) (by rfl) ?_ ?_
              rotate_left
              · intro w' hLat; change Below _ _ _ at hLat; go_simp <;> with_reducible rfl
              try simp only [Act.put, List.setIfInBounds_toArray, List.set_cons_zero, List.set_cons_succ, List.getElem_toArray, List.getElem_cons_zero, List.getElem_cons_succ]
              refine Seq.take_lat (i := 9) (v := ?_) rfl (by kernel_rfl) (by kernel_rfl) (by kernel_rfl) (fun _ _ _ h => h) (by rfl) ?_ ?_
              rotate_left
              · intro w' hLat; change Below _ _ _ at hLat; go_simp <;> with_reducible rfl
              try simp only [Act.put, List.setIfInBounds_toArray, List.set_cons_zero, List.set_cons_succ, List.getElem_toArray, List.getElem_cons_zero, List.getElem_cons_succ]
              refine Seq.take_lat (i := 10) (v := ?_) rfl (by kernel_rfl) (by kernel_rfl) (by kernel_rfl) (fun _ _ _ h => h) (by rfl) ?_ ?_
              rotate_left
              · intro w' hLat; change Below _ _ _ at hLat; go_simp <;> with_reducible rfl
              try simp only [Act.put, List.setIfInBounds_toArray, List.set_cons_zero, List.set_cons_succ, List.getElem_toArray, List.getElem_cons_zero, List.getElem_cons_succ]
              refine Seq.take_lat (i := 11) (v := ?_) rfl (by kernel_rfl) (by kernel_rfl) (by kernel_rfl) (fun _ _ _ h => h) (by rfl) ?_ ?_
              rotate_left
              · intro w' hLat; change Below _ _ _ at hLat; go_simp <;> with_reducible rfl
              try simp only [Act.put, List.setIfInBounds_toArray, List.set_cons_zero, List.set_cons_succ, List.getElem_toArray, List.getElem_cons_zero, List.getElem_cons_succ]
              refine Seq.take_lat (i := 12) (v := ?_) rfl (by kernel_rfl) (by kernel_rfl) (by kernel_rfl) (fun _ _ _ h => h) (by rfl) ?_ ?_
              rotate_left
              · intro w' hLat; change Below _ _ _ at hLat; go_simp <;> with_reducible rfl
              try simp only [Act.put, List.setIfInBounds_toArray, List.set_cons_zero, List.set_cons_succ, List.getElem_toArray, List.getElem_cons_zero, List.getElem_cons_succ]
              refine Seq.take_lat (i := 13) (v := ?_) rfl (by kernel_rfl) (by kernel_rfl) (by kernel_rfl) (fun _ _ _ h => h) (by rfl) ?_ ?_
              rotate_left
              · intro w' hLat; change Below _ _ _ at hLat; go_simp <;> with_reducible rfl
              try simp only [Act.put, List.setIfInBounds_toArray, List.set_cons_zero, List.set_cons_succ, List.getElem_toArray, List.getElem_cons_zero, List.getElem_cons_succ]
              refine wpAnyH_done (by kernel_rfl) ?_ _
              go_wp2
              go_ret
              exact ⟨rfl, HD.out.2⟩
          · obtain ⟨hE, hTZ⟩ := HG.out hv
            subst hE
            have f1 : ¬ (48 : Int) ≤ c := by omega
            have f1' : decide ((48 : Int) ≤ c) = false := by simp; omega
            have f2 : ¬ (97 : Int) ≤ c := by omega
            have f2' : decide ((97 : Int) ≤ c) = false := by simp; omega
            have eTZ := eq_same25 T hTl
            have HTF : Box (fil8 [] 32 = u8s T) := ⟨by rw [hTZ]; rfl⟩
            clear hTZ
            go_wp2_with (first | (refine wpList_see25 g11 T _ HZ.out.1 (.head _) (.tmp 11) rfl rfl (by rfl) ?_) | (refine wpList_wbuild25 (by rfl) rfl ?_; rw [HTF.out]))
            go_ret
            exact ⟨rfl, HZ.out.2⟩
          · obtain ⟨hE, hTZ⟩ := HG.out hv
            subst hE
            have f0 : (48 : Int) ≤ c := by omega
            have f1 : ¬ c ≤ 57 := by omega
            have f1' : decide (c ≤ 57) = false := by simp; omega
            have f2 : ¬ (97 : Int) ≤ c := by omega
            have f2' : decide ((97 : Int) ≤ c) = false := by simp; omega
            have eTZ := eq_same25 T hTl
            have HTF : Box (fil8 [] 32 = u8s T) := ⟨by rw [hTZ]; rfl⟩
            clear hTZ
            go_wp2_with (first | (refine wpList_see25 g11 T _ HZ.out.1 (.head _) (.tmp 11) rfl rfl (by rfl) ?_) | (refine wpList_wbuild25 (by rfl) rfl ?_; rw [HTF.out]))
            go_ret
            exact ⟨rfl, HZ.out.2⟩
          · obtain ⟨hE, hTZ⟩ := HG.out hv
            subst hE
            have f0 : (48 : Int) ≤ c := by omega
            have f1 : ¬ c ≤ 57 := by omega
            have f1' : decide (c ≤ 57) = false := by simp; omega
            have f2 : (97 : Int) ≤ c := by omega
            have f3 : ¬ c ≤ 102 := by omega
            have f3' : decide (c ≤ 102) = false := by simp; omega
            have eTZ := eq_same25 T hTl
            have HTF : Box (fil8 [] 32 = u8s T) := ⟨by rw [hTZ]; rfl⟩
            clear hTZ
            go_wp2_with (first | (refine wpList_see25 g11 T _ HZ.out.1 (.head _) (.tmp 11) rfl rfl (by rfl) ?_) | (refine wpList_wbuild25 (by rfl) rfl ?_; rw [HTF.out]))
            go_ret
            exact ⟨rfl, HZ.out.2⟩
      · rw [if_pos (by rfl)]
        refine wp_al25 rfl ?_
        intro x13 g11 HX13'
        rw [HZZ.out] at HX13'
        have HX13 : Box (Way w x13 [(g11, Z), (w.heap.size, D)] ∧ True) := ⟨way_add HX0.out.1 HX13'.out.2.1 HX13'.out.1 hZl, trivial⟩
        have hg11 : w.heap.size < g11 := way_lt HX0.out.1 HX13'.out.2.2
        clear HX13'
        refine hK _ _ ?_
        clear hK K
        try simp only [Act.put, List.setIfInBounds_toArray, List.set_cons_zero, List.set_cons_succ, List.getElem_toArray, List.getElem_cons_zero, List.getElem_cons_succ]
        refine wpAny_ready (rs := [4]) (by kernel_rfl) (by simp) ?_
        refine (AllReady.cons rfl (fun K hK => ?_) AllReady.nil)
        rw [if_pos (by rfl)]
        refine wp_bs (.tmp 55) rfl c rfl ?_
        intro x14 g4 HX14'
        have HX14 : Box (Way w x14 [(g11, Z), (w.heap.size, D)] ∧ Bytes x14 (some ⟨g4, 0, none⟩) 1 [c]) := ⟨HX13.out.1.on HX14'.out.2, HX14'.out.1 hcb⟩
        clear HX14'
        refine hK _ _ ?_
        clear hK K
        try simp only [Act.put, List.setIfInBounds_toArray, List.set_cons_zero, List.set_cons_succ, List.getElem_toArray, List.getElem_cons_zero, List.getElem_cons_succ]
        refine wpAny_ready (rs := [5]) (by kernel_rfl) (by simp) ?_
        refine (AllReady.cons rfl (fun K hK => ?_) AllReady.nil)
        rw [if_pos (by rfl)]
        refine wp_cv (.tmp 56) rfl g4 c rfl HX14.out.2 ?_
        rw [HQ.out]
        refine hK _ _ ?_
        have HX15 : Box (Way w x14 [(g11, Z), (w.heap.size, D)] ∧ True) := ⟨HX14.out.1, trivial⟩
        clear hK K
        try simp only [Act.put, List.setIfInBounds_toArray, List.set_cons_zero, List.set_cons_succ, List.getElem_toArray, List.getElem_cons_zero, List.getElem_cons_succ]
        refine wpAny_take (i := 6) (v := ?_) rfl (by kernel_rfl) (by kernel_rfl) (by kernel_rfl) (fun _ _ _ h => h) (Or.inl ⟨by rfl, ?_⟩) ?_
        rotate_left
        · intro w'; go_simp <;> with_reducible rfl
        try simp only [Act.put, List.setIfInBounds_toArray, List.set_cons_zero, List.set_cons_succ, List.getElem_toArray, List.getElem_cons_zero, List.getElem_cons_succ]
        refine wpAny_take (i := 11) (v := ?_) rfl (by kernel_rfl) (by kernel_rfl) (by kernel_rfl) (fun _ _ _ h => h) (Or.inl ⟨by rfl, ?_⟩) ?_
        rotate_left
        · intro w'; go_simp <;> with_reducible rfl
        try simp only [Act.put, List.setIfInBounds_toArray, List.set_cons_zero, List.set_cons_succ, List.getElem_toArray, List.getElem_cons_zero, List.getElem_cons_succ]
        refine wpAny_ready (rs := [12]) (by kernel_rfl) (by simp) ?_
        refine (AllReady.cons rfl (fun K hK => ?_) AllReady.nil)
        rw [if_pos (by rfl)]
        go_simp
        rw [HPS.out]
        refine Calls.mono (HRD.out x14) ?_
        rintro e x16 ⟨rfl, hb⟩
        have HX16 : Box (Way w x16 [(g11, Z), (w.heap.size, D)] ∧ True) := ⟨HX15.out.1.on hb, trivial⟩
        clear hb
        refine hK _ _ ?_
        clear hK K
        try simp only [Act.put, List.setIfInBounds_toArray, List.set_cons_zero, List.set_cons_succ, List.getElem_toArray, List.getElem_cons_zero, List.getElem_cons_succ]
        refine wpAny_take (i := 13) (v := ?_) rfl (by kernel_rfl) (by kernel_rfl) (by kernel_rfl) (fun _ _ _ h => h) (Or.inl ⟨by rfl, ?_⟩) ?_
        rotate_left
        · intro w'; go_simp <;> with_reducible rfl
        try simp only [Act.put, List.setIfInBounds_toArray, List.set_cons_zero, List.set_cons_succ, List.getElem_toArray, List.getElem_cons_zero, List.getElem_cons_succ]
        refine wpAny_take (i := 14) (v := ?_) rfl (by kernel_rfl) (by kernel_rfl) (by kernel_rfl) (fun _ _ _ h => h) (Or.inl ⟨by rfl, ?_⟩) ?_
        rotate_left
        · intro w'; go_simp <;> with_reducible rfl
        try simp only [Act.put, List.setIfInBounds_toArray, List.set_cons_zero, List.set_cons_succ, List.getElem_toArray, List.getElem_cons_zero, List.getElem_cons_succ]
        refine wpAny_take (i := 15) (v := ?_) rfl (by kernel_rfl) (by kernel_rfl) (by kernel_rfl) (fun _ _ _ h => h) (Or.inl ⟨by rfl, ?_⟩) ?_
        rotate_left
        · intro w'; go_simp <;> with_reducible rfl
        try simp only [Act.put, List.setIfInBounds_toArray, List.set_cons_zero, List.set_cons_succ, List.getElem_toArray, List.getElem_cons_zero, List.getElem_cons_succ]
        refine wpAny_ready (rs := [17]) (by kernel_rfl) (by simp) ?_
        refine AllReady.cons rfl (fun K hK => ?_) AllReady.nil
        rw [if_pos (by rfl)]
        refine wp_st25 (.tmp 11) (.tmp 65) rfl g11 T hTl rfl rfl HX16.out.1 hg11 ?_
        intro x9 HZ
        refine hK _ _ ?_
        clear hK K
        refine wpAny_take (i := 18) (v := ?_) rfl (by kernel_rfl) (by kernel_rfl) (by kernel_rfl) (fun _ _ _ h => h) (Or.inl ⟨by rfl, ?_⟩) ?_
        rotate_left
        · intro w'; go_simp <;> with_reducible rfl
        try simp only [Act.put, List.setIfInBounds_toArray, List.set_cons_zero, List.set_cons_succ, List.getElem_toArray, List.getElem_cons_zero, List.getElem_cons_succ]
        refine wpAny_done (by kernel_rfl) ?_ _
        rcases hcls with ⟨hv, q1, q2⟩ | ⟨hv, q1, q2, q3⟩ | ⟨hv, q1⟩ | ⟨hv, q1, q2⟩ | ⟨hv, q1⟩
        · obtain ⟨hE, hTD⟩ := HF.out hv
          subst hE
          have f1 : (48 : Int) ≤ c := q1
          have f2 : c ≤ 57 := q2
          by_cases hcy : c = y
          · subst hcy
            have hTD' : decide (T = D) = true := by rw [hTD]; simp
            have eTD := eq25 T D hTl hl
            rw [hTD'] at eTD
            clear hTD hTD'
            go_wp2
            refine Seq.begin_any (by kernel_rfl) (fun wd hd => ?_)
            have HD : Box (Way w wd [(g11, T), (w.heap.size, D)]) := ⟨HZ.out.on hd⟩
            clear hd
            refine Seq.take_lat (i := 0) (v := ?_) rfl (by kernel_rfl) (by kernel_rfl) (by kernel_rfl) (fun _ _ _ h => h) (by rfl) ?_ ?_
            rotate_left
            · intro w' hLat; change Below _ _ _ at hLat; go_simp <;> with_reducible rfl
            try simp only [Act.put, List.setIfInBounds_toArray, List.set_cons_zero, List.set_cons_succ, List.getElem_toArray, List.getElem_cons_zero]
            refine Seq.take_lat (i := 1) (v := ?_) rfl (by kernel_rfl) (by kernel_rfl) (by kernel_rfl) (fun _ _ _ h => h) (by rfl) ?_ ?_
            rotate_left
            · intro w' hLat; change Below _ _ _ at hLat; go_simp <;> with_reducible rfl
            try simp only [Act.put, List.setIfInBounds_toArray, List.set_cons_zero, List.set_cons_succ, List.getElem_toArray, List.getElem_cons_zero, List.getElem_cons_succ]
            refine Seq.take_lat (i := 2) (v := ?_) rfl (by kernel_rfl) (by kernel_rfl) (by kernel_rfl) (fun _ _ _ h => h) (by rfl) ?_ ?_
            rotate_left
            · intro w' hLat; change Below _ _ _ at hLat; go_simp <;> with_reducible rfl
            try simp only [Act.put, List.setIfInBounds_toArray, List.set_cons_zero, List.set_cons_succ, List.getElem_toArray, List.getElem_cons_zero, List.getElem_cons_succ]
            refine Seq.take_lat (i := 3) (v := .agg (u8s T)) rfl (by kernel_rfl) (by kernel_rfl) (by kernel_rfl) (fun _ _ _ h => h) (by rfl) (fun w' hLat => exec_load25 (.tmp 11) rfl g11 rfl T _ (HD.out.1.below hLat) (.head _)) ?_
            try simp only [Act.put, List.setIfInBounds_toArray, List.set_cons_zero, List.set_cons_succ, List.getElem_toArray, List.getElem_cons_zero, List.getElem_cons_succ]
            refine Seq.take_lat (i := 4) (v := .agg (u8s D)) rfl (by kernel_rfl) (by kernel_rfl) (by kernel_rfl) (fun _ _ _ h => h) (by rfl) (fun w' hLat => exec_load25 (.tmp 3) rfl w.heap.size rfl D _ (HD.out.1.below hLat) (.tail _ (.head _))) ?_
            try simp only [Act.put, List.setIfInBounds_toArray, List.set_cons_zero, List.set_cons_succ, List.getElem_toArray, List.getElem_cons_zero, List.getElem_cons_succ]
            refine Seq.take_lat (i := 5) (v := ?_) rfl (by kernel_rfl) (by kernel_rfl) (by kernel_rfl) (fun _ _ _ h => h) (by rfl) ?_ ?_
            rotate_left
            · intro w' hLat; change Below _ _ _ at hLat; go_simp <;> with_reducible rfl
            try simp only [Act.put, List.setIfInBounds_toArray, List.set_cons_zero, List.set_cons_succ, List.getElem_toArray, List.getElem_cons_zero, List.getElem_cons_succ]
            refine Seq.take_lat (i := 6) (v := ?_) rfl (by kernel_rfl) (by kernel_rfl) (by kernel_rfl) (fun _ _ _ h => h) (by rfl) ?_ ?_
            rotate_left
            · intro w' hLat; change Below _ _ _ at hLat; go_simp <;> with_reducible rfl
            try simp only [Act.put, List.setIfInBounds_toArray, List.set_cons_zero, List.set_cons_succ, List.getElem_toArray, List.getElem_cons_zero, List.getElem_cons_succ]
            refine Seq.take_lat (i := 7) (v := ?_) rfl (by kernel_rfl) (by kernel_rfl) (by kernel_rfl) (fun _ _ _ h => h) (by rfl) ?_ ?_
            rotate_left
            · intro w' hLat; change Below _ _ _ at hLat; go_simp <;> with_reducible rfl
            try simp only [Act.put, List.setIfInBounds_toArray, List.set_cons_zero, List.set_cons_succ, List.getElem_toArray, List.getElem_cons_zero, List.getElem_cons_succ]
            refine Seq.take_lat (i := 8) (v := ?_) rfl (by kernel_rfl) (by kernel_rfl) (by kernel_rfl) (fun _ _ _ h => h) (by rfl) ?_ ?_
            rotate_left
            · intro w' hLat; change Below _ _ _ at hLat; go_simp <;> with_reducible rfl
            try simp only [Act.put, List.setIfInBounds_toArray, List.set_cons_zero, List.set_cons_succ, List.getElem_toArray, List.getElem_cons_zero, List.getElem_cons_succ]
            refine Seq.take_lat (i := 9) (v := ?_) rfl (by kernel_rfl) (by kernel_rfl) (by kernel_rfl) (fun _ _ _ h => h) (by rfl) ?_ ?_
            rotate_left
            · intro w' hLat; change Below _ _ _ at hLat; go_simp <;> with_reducible rfl
            try simp only [Act.put, List.setIfInBounds_toArray, List.set_cons_zero, List.set_cons_succ, List.getElem_toArray, List.getElem_cons_zero, List.getElem_cons_succ]
            refine Seq.take_lat (i := 10) (v := ?_) rfl (by kernel_rfl) (by kernel_rfl) (by kernel_rfl) (fun _ _ _ h => h) (by rfl) ?_ ?_
            rotate_left
            · intro w' hLat; change Below _ _ _ at hLat; go_simp <;> with_reducible rfl
            try simp only [Act.put, List.setIfInBounds_toArray, List.set_cons_zero, List.set_cons_succ, List.getElem_toArray, List.getElem_cons_zero, List.getElem_cons_succ]
            refine Seq.take_lat (i := 11) (v := ?_) rfl (by kernel_rfl) (by kernel_rfl) (by kernel_rfl) (fun _ _ _ h => h) (by rfl) ?_ ?_
            rotate_left
            · intro w' hLat; change Below _ _ _ at hLat; go_simp <;> with_reducible rfl
            try simp only [Act.put, List.setIfInBounds_toArray, List.set_cons_zero, List.set_cons_succ, List.getElem_toArray, List.getElem_cons_zero, List.getElem_cons_succ]
            refine Seq.take_lat (i := 12) (v := ?_) rfl (by kernel_rfl) (by kernel_rfl) (by kernel_rfl) (fun _ _ _ h => h) (by rfl) ?_ ?_
            rotate_left
            · intro w' hLat; change Below _ _ _ at hLat; go_simp <;> with_reducible rfl
            try simp only [Act.put, List.setIfInBounds_toArray, List.set_cons_zero, List.set_cons_succ, List.getElem_toArray, List.getElem_cons_zero, List.getElem_cons_succ]
            refine Seq.take_lat (i := 13) (v := ?_) rfl (by kernel_rfl) (by kernel_rfl) (by kernel_rfl) (fun _ _ _ h => h) (by rfl) ?_ ?_
            rotate_left
            · intro w' hLat; change Below _ _ _ at hLat; go_simp <;> with_reducible rfl
            try simp only [Act.put, List.setIfInBounds_toArray, List.set_cons_zero, List.set_cons_succ, List.getElem_toArray, List.getElem_cons_zero, List.getElem_cons_succ]
            refine wpAnyH_done (by kernel_rfl) ?_ _
            go_wp2
            go_ret
            exact ⟨rfl, HD.out.2⟩
          · have hTD' : decide (T = D) = false := by rw [hTD]; simpa using hcy
            have hcy' : (c == y) = false := by simpa using hcy
            have eTD := eq25 T D hTl hl
            rw [hTD'] at eTD
            clear hTD hTD'
            go_wp2
            refine Seq.begin_any (by kernel_rfl) (fun wd hd => ?_)
            have HD : Box (Way w wd [(g11, T), (w.heap.size, D)]) := ⟨HZ.out.on hd⟩
            clear hd
            refine Seq.take_lat (i := 0) (v := ?_) rfl (by kernel_rfl) (by kernel_rfl) (by kernel_rfl) (fun _ _ _ h => h) (by rfl) ?_ ?_
            rotate_left
            · intro w' hLat; change Below _ _ _ at hLat; go_simp <;> with_reducible rfl
            try simp only [Act.put, List.setIfInBounds_toArray, List.set_cons_zero, List.set_cons_succ, List.getElem_toArray, List.getElem_cons_zero]
            refine Seq.take_lat (i := 1) (v := ?_) rfl (by kernel_rfl) (by kernel_rfl) (by kernel_rfl) (fun _ _ _ h => h) (by rfl) ?_ ?_
            rotate_left
            · intro w' hLat; change Below _ _ _ at hLat; go_simp <;> with_reducible rfl
            try simp only [Act.put, List.setIfInBounds_toArray, List.set_cons_zero, List.set_cons_succ, List.getElem_toArray, List.getElem_cons_zero, List.getElem_cons_succ]
            refine Seq.take_lat (i := 2) (v := ?_) rfl (by kernel_rfl) (by kernel_rfl) (by kernel_rfl) (fun _ _ _ h => h) (by rfl) ?_ ?_
            rotate_left
            · intro w' hLat; change Below _ _ _ at hLat; go_simp <;> with_reducible rfl
            try simp only [Act.put, List.setIfInBounds_toArray, List.set_cons_zero, List.set_cons_succ, List.getElem_toArray, List.getElem_cons_zero, List.getElem_cons_succ]
            refine Seq.take_lat (i := 3) (v := .agg (u8s T)) rfl (by kernel_rfl) (by kernel_rfl) (by kernel_rfl) (fun _ _ _ h => h) (by rfl) (fun w' hLat => exec_load25 (.tmp 11) rfl g11 rfl T _ (HD.out.1.below hLat) (.head _)) ?_
            try simp only [Act.put, List.setIfInBounds_toArray, List.set_cons_zero, List.set_cons_succ, List.getElem_toArray, List.getElem_cons_zero, List.getElem_cons_succ]
            refine Seq.take_lat (i := 4) (v := .agg (u8s D)) rfl (by kernel_rfl) (by kernel_rfl) (by kernel_rfl) (fun _ _ _ h => h) (by rfl) (fun w' hLat => exec_load25 (.tmp 3) rfl w.heap.size rfl D _ (HD.out.1.below hLat) (.tail _ (.head _))) ?_
            try simp only [Act.put, List.setIfInBounds_toArray, List.set_cons_zero, List.set_cons_succ, List.getElem_toArray, List.getElem_cons_zero, List.getElem_cons_succ]
            refine Seq.take_lat (i := 5) (v := ?_) rfl (by kernel_rfl) (by kernel_rfl) (by kernel_rfl) (fun _ _ _ h => h) (by rfl) ?_ ?_
            rotate_left
            · intro w' hLat; change Below _ _ _ at hLat; go_simp <;> with_reducible rfl
            try simp only [Act.put, List.setIfInBounds_toArray, List.set_cons_zero, List.set_cons_succ, List.getElem_toArray, List.getElem_cons_zero, List.getElem_cons_succ]
            refine Seq.take_lat (i := 6) (v := ?_) rfl (by kernel_rfl) (by kernel_rfl) (by kernel_rfl) (fun _ _ _ h => h) (by rfl) ?_ ?_
            rotate_left
            · intro w' hLat; change Below _ _ _ at hLat; go_simp <;> with_reducible rfl
            try simp only [Act.put, List.setIfInBounds_toArray, List.set_cons_zero, List.set_cons_succ, List.getElem_toArray, List.getElem_cons_zero, List.getElem_cons_succ]
            refine Seq.take_lat (i := 7) (v := ?_) rfl (by kernel_rfl) (by kernel_rfl) (by kernel_rfl) (fun _ _ _ h => h) (by rfl) ?_ ?_
            rotate_left
            · intro w' hLat; change Below _ _ _ at hLat; go_simp <;> with_reducible rfl
            try simp only [Act.put, List.setIfInBounds_toArray, List.set_cons_zero, List.set_cons_succ, List.getElem_toArray, List.getElem_cons_zero, List.getElem_cons_succ]
            refine Seq.take_lat (i := 8) (v := ?_) rfl (by kernel_rfl) (by kernel_rfl) (by kernel_rfl) (fun _ _ _ h => h) (by rfl) ?_ ?_
            rotate_left
            · intro w' hLat; change Below _ _ _ at hLat; go_simp <;> with_reducible rfl
            try simp only [Act.put, List.setIfInBounds_toArray, List.set_cons_zero, List.set_cons_succ, List.getElem_toArray, List.getElem_cons_zero, List.getElem_cons_succ]
            refine Seq.take_lat (i := 9) (v := ?_) rfl (by kernel_rfl) (by kernel_rfl) (by kernel_rfl) (fun _ _ _ h => h) (by rfl) ?_ ?_
            rotate_left
            · intro w' hLat; change Below _ _ _ at hLat; go_simp <;> with_reducible rfl
            try simp only [Act.put, List.setIfInBounds_toArray, List.set_cons_zero, List.set_cons_succ, List.getElem_toArray, List.getElem_cons_zero, List.getElem_cons_succ]
            refine Seq.take_lat (i := 10) (v := ?_) rfl (by kernel_rfl) (by kernel_rfl) (by kernel_rfl) (fun _ _ _ h => h) (by rfl) ?_ ?_
            rotate_left
            · intro w' hLat; change Below _ _ _ at hLat; go_simp <;> with_reducible rfl
            try simp only [Act.put, List.setIfInBounds_toArray, List.set_cons_zero, List.set_cons_succ, List.getElem_toArray, List.getElem_cons_zero, List.getElem_cons_succ]
            refine Seq.take_lat (i := 11) (v := ?_) rfl (by kernel_rfl) (by kernel_rfl) (by kernel_rfl) (fun _ _ _ h => h) (by rfl) ?_ ?_
            rotate_left
            · intro w' hLat; change Below _ _ _ at hLat; go_simp <;> with_reducible rfl
            try simp only [Act.put, List.setIfInBounds_toArray, List.set_cons_zero, List.set_cons_succ, List.getElem_toArray, List.getElem_cons_zero, List.getElem_cons_succ]
            refine Seq.take_lat (i := 12) (v := ?_) rfl (by kernel_rfl) (by kernel_rfl) (by kernel_rfl) (fun _ _ _ h => h) (by rfl) ?_ ?_
            rotate_left
            · intro w' hLat; change Below _ _ _ at hLat; go_simp <;> with_reducible rfl
            try simp only [Act.put, List.setIfInBounds_toArray, List.set_cons_zero, List.set_cons_succ, List.getElem_toArray, List.getElem_cons_zero, List.getElem_cons_succ]
            refine Seq.take_lat (i := 13) (v := ?_) rfl (by kernel_rfl) (by kernel_rfl) (by kernel_rfl) (fun _ _ _ h => h) (by rfl) ?_ ?_
            rotate_left
            · intro w' hLat; change Below _ _ _ at hLat; go_simp <;> with_reducible rfl
            try simp only [Act.put, List.setIfInBounds_toArray, List.set_cons_zero, List.set_cons_succ, List.getElem_toArray, List.getElem_cons_zero, List.getElem_cons_succ]
            refine wpAnyH_done (by kernel_rfl) ?_ _
            go_wp2
            go_ret
            exact ⟨rfl, HD.out.2⟩
        · obtain ⟨hE, hTD⟩ := HF.out hv
          subst hE
          have f0 : (48 : Int) ≤ c := by omega
          have f1 : ¬ c ≤ 57 := by omega
          have f1' : decide (c ≤ 57) = false := by simp; omega
          have f2 : (97 : Int) ≤ c := q2
          have f3 : c ≤ 102 := q3
          by_cases hcy : c = y
          · subst hcy
            have hTD' : decide (T = D) = true := by rw [hTD]; simp
            have eTD := eq25 T D hTl hl
            rw [hTD'] at eTD
            clear hTD hTD'
            go_wp2
            refine Seq.begin_any (by kernel_rfl) (fun wd hd => ?_)
            have HD : Box (Way w wd [(g11, T), (w.heap.size, D)]) := ⟨HZ.out.on hd⟩
            clear hd
            refine Seq.take_lat (i := 0) (v := ?_) rfl (by kernel_rfl) (by kernel_rfl) (by kernel_rfl) (fun _ _ _ h => h) (by rfl) ?_ ?_
            rotate_left
            · intro w' hLat; change Below _ _ _ at hLat; go_simp <;> with_reducible rfl
            try simp only [Act.put, List.setIfInBounds_toArray, List.set_cons_zero, List.set_cons_succ, List.getElem_toArray, List.getElem_cons_zero]
            refine Seq.take_lat (i := 1) (v := ?_) rfl (by kernel_rfl) (by kernel_rfl) (by kernel_rfl) (fun _ _ _ h => h) (by rfl) ?_ ?_
            rotate_left
            · intro w' hLat; change Below _ _ _ at hLat; go_simp <;> with_reducible rfl
            try simp only [Act.put, List.setIfInBounds_toArray, List.set_cons_zero, List.set_cons_succ, List.getElem_toArray, List.getElem_cons_zero, List.getElem_cons_succ]
            refine Seq.take_lat (i := 2) (v := ?_) rfl (by kernel_rfl) (by kernel_rfl) (by kernel_rfl) (fun _ _ _ h => h) (by rfl) ?_ ?_
            rotate_left
            · intro w' hLat; change Below _ _ _ at hLat; go_simp <;> with_reducible rfl
            try simp only [Act.put, List.setIfInBounds_toArray, List.set_cons_zero, List.set_cons_succ, List.getElem_toArray, List.getElem_cons_zero, List.getElem_cons_succ]
            refine Seq.take_lat (i := 3) (v := .agg (u8s T)) rfl (by kernel_rfl) (by kernel_rfl) (by kernel_rfl) (fun _ _ _ h => h) (by rfl) (fun w' hLat => exec_load25 (.tmp 11) rfl g11 rfl T _ (HD.out.1.below hLat) (.head _)) ?_
            try simp only [Act.put, List.setIfInBounds_toArray, List.set_cons_zero, List.set_cons_succ, List.getElem_toArray, List.getElem_cons_zero, List.getElem_cons_succ]
            refine Seq.take_lat (i := 4) (v := .agg (u8s D)) rfl (by kernel_rfl) (by kernel_rfl) (by kernel_rfl) (fun _ _ _ h => h) (by rfl) (fun w' hLat => exec_load25 (.tmp 3) rfl w.heap.size rfl D _ (HD.out.1.below hLat) (.tail _ (.head _))) ?_
            try simp only [Act.put, List.setIfInBounds_toArray, List.set_cons_zero, List.set_cons_succ, List.getElem_toArray, List.getElem_cons_zero, List.getElem_cons_succ]
            refine Seq.take_lat (i := 5) (v := ?_) rfl (by kernel_rfl) (by kernel_rfl) (by kernel_rfl) (fun _ _ _ h => h) (by rfl) ?_ ?_
            rotate_left
            · intro w' hLat; change Below _ _ _ at hLat; go_simp <;> with_reducible rfl
            try simp only [Act.put, List.setIfInBounds_toArray, List.set_cons_zero, List.set_cons_succ, List.getElem_toArray, List.getElem_cons_zero, List.getElem_cons_succ]
            refine Seq.take_lat (i := 6) (v := ?_) rfl (by kernel_rfl) (by kernel_rfl) (by kernel_rfl) (fun _ _ _ h => h) (by rfl) ?_ ?_
            rotate_left
            · intro w' hLat; change Below _ _ _ at hLat; go_simp <;> with_reducible rfl
            try simp only [Act.put, List.setIfInBounds_toArray, List.set_cons_zero, List.set_cons_succ, List.getElem_toArray, List.getElem_cons_zero, List.getElem_cons_succ]
            refine Seq.take_lat (i := 7) (v := ?_) rfl (by kernel_rfl) (by kernel_rfl) (by kernel_rfl) (fun _ _ _ h => h) (by rfl) ?_ ?_
            rotate_left
            · intro w' hLat; change Below _ _ _ at hLat; go_simp <;> with_reducible rfl
            try simp only [Act.put, List.setIfInBounds_toArray, List.set_cons_zero, List.set_cons_succ, List.getElem_toArray, List.getElem_cons_zero, List.getElem_cons_succ]
            refine Seq.take_lat (i := 8) (v := ?_) rfl (by kernel_rfl) (by kernel_rfl) (by kernel_rfl) (fun _ _ _ h => h) (by rfl) ?_ ?_
            rotate_left
            · intro w' hLat; change Below _ _ _ at hLat; go_simp <;> with_reducible rfl
            try simp only [Act.put, List.setIfInBounds_toArray, List.set_cons_zero, List.set_cons_succ, List.getElem_toArray, List.getElem_cons_zero, List.getElem_cons_succ]
            refine Seq.take_lat (i := 9) (v := ?_) rfl (by kernel_rfl) (by kernel_rfl) (by kernel_rfl) (fun _ _ _ h => h) (by rfl) ?_ ?_
            rotate_left
            · intro w' hLat; change Below _ _ _ at hLat; go_simp <;> with_reducible rfl
            try simp only [Act.put, List.setIfInBounds_toArray, List.set_cons_zero, List.set_cons_succ, List.getElem_toArray, List.getElem_cons_zero, List.getElem_cons_succ]
            refine Seq.take_lat (i := 10) (v := ?_) rfl (by kernel_rfl) (by kernel_rfl) (by kernel_rfl) (fun _ _ _ h => h) (by rfl) ?_ ?_
            rotate_left
            · intro w' hLat; change Below _ _ _ at hLat; go_simp <;> with_reducible rfl
            try simp only [Act.put, List.setIfInBounds_toArray, List.set_cons_zero, List.set_cons_succ, List.getElem_toArray, List.getElem_cons_zero, List.getElem_cons_succ]
            refine Seq.take_lat (i := 11) (v := ?_) rfl (by kernel_rfl) (by kernel_rfl) (by kernel_rfl) (fun _ _ _ h => h) (by rfl) ?_ ?_
            rotate_left
            · intro w' hLat; change Below _ _ _ at hLat; go_simp <;> with_reducible rfl
            try simp only [Act.put, List.setIfInBounds_toArray, List.set_cons_zero, List.set_cons_succ, List.getElem_toArray, List.getElem_cons_zero, List.getElem_cons_succ]
            refine Seq.take_lat (i := 12) (v := ?_) rfl (by kernel_rfl) (by kernel_rfl) (by kernel_rfl) (fun _ _ _ h => h) (by rfl) ?_ ?_
            rotate_left
            · intro w' hLat; change Below _ _ _ at hLat; go_simp <;> with_reducible rfl
            try simp only [Act.put, List.setIfInBounds_toArray, List.set_cons_zero, List.set_cons_succ, List.getElem_toArray, List.getElem_cons_zero, List.getElem_cons_succ]
            refine Seq.take_lat (i := 13) (v := ?_) rfl (by kernel_rfl) (by kernel_rfl) (by kernel_rfl) (fun _ _ _ h => h) (by rfl) ?_ ?_
            rotate_left
            · intro w' hLat; change Below _ _ _ at hLat; go_simp <;> with_reducible rfl
            try simp only [Act.put, List.setIfInBounds_toArray, List.set_cons_zero, List.set_cons_succ, List.getElem_toArray, List.getElem_cons_zero, List.getElem_cons_succ]
            refine wpAnyH_done (by kernel_rfl) ?_ _
            go_wp2
            go_ret
            exact ⟨rfl, HD.out.2⟩
          · have hTD' : decide (T = D) = false := by rw [hTD]; simpa using hcy
            have hcy' : (c == y) = false := by simpa using hcy
            have eTD := eq25 T D hTl hl
            rw [hTD'] at eTD
            clear hTD hTD'
            go_wp2
            refine Seq.begin_any (by kernel_rfl) (fun wd hd => ?_)
            have HD : Box (Way w wd [(g11, T), (w.heap.size, D)]) := ⟨HZ.out.on hd⟩
            clear hd
            refine Seq.take_lat (i := 0) (v := ?_) rfl (by kernel_rfl) (by kernel_rfl) (by kernel_rfl) (fun _ _ _ h => h) (by rfl) ?_ ?_
            rotate_left
            · intro w' hLat; change Below _ _ _ at hLat; go_simp <;> with_reducible rfl
            try simp only [Act.put, List.setIfInBounds_toArray, List.set_cons_zero, List.set_cons_succ, List.getElem_toArray, List.getElem_cons_zero]
            refine Seq.take_lat (i := 1) (v := ?_) rfl (by kernel_rfl) (by kernel_rfl) (by kernel_rfl) (fun _ _ _ h => h) (by rfl) ?_ ?_
            rotate_left
            · intro w' hLat; change Below _ _ _ at hLat; go_simp <;> with_reducible rfl
            try simp only [Act.put, List.setIfInBounds_toArray, List.set_cons_zero, List.set_cons_succ, List.getElem_toArray, List.getElem_cons_zero, List.getElem_cons_succ]
            refine Seq.take_lat (i := 2) (v := ?_) rfl (by kernel_rfl) (by kernel_rfl) (by kernel_rfl) (fun _ _ _ h => h) (by rfl) ?_ ?_
            rotate_left
            · intro w' hLat; change Below _ _ _ at hLat; go_simp <;> with_reducible rfl
            try simp only [Act.put, List.setIfInBounds_toArray, List.set_cons_zero, List.set_cons_succ, List.getElem_toArray, List.getElem_cons_zero, List.getElem_cons_succ]
            refine Seq.take_lat (i := 3) (v := .agg (u8s T)) rfl (by kernel_rfl) (by kernel_rfl) (by kernel_rfl) (fun _ _ _ h => h) (by rfl) (fun w' hLat => exec_load25 (.tmp 11) rfl g11 rfl T _ (HD.out.1.below hLat) (.head _)) ?_
            try simp only [Act.put, List.setIfInBounds_toArray, List.set_cons_zero, List.set_cons_succ, List.getElem_toArray, List.getElem_cons_zero, List.getElem_cons_succ]
            refine Seq.take_lat (i := 4) (v := .agg (u8s D)) rfl (by kernel_rfl) (by kernel_rfl) (by kernel_rfl) (fun _ _ _ h => h) (by rfl) (fun w' hLat => exec_load25 (.tmp 3) rfl w.heap.size rfl D _ (HD.out.1.below hLat) (.tail _ (.head _))) ?_
            try simp only [Act.put, List.setIfInBounds_toArray, List.set_cons_zero, List.set_cons_succ, List.getElem_toArray, List.getElem_cons_zero, List.getElem_cons_succ]
            refine Seq.take_lat (i := 5) (v := ?_) rfl (by kernel_rfl) (by kernel_rfl) (by kernel_rfl) (fun _ _ _ h => h) (by rfl) ?_ ?_
            rotate_left
            · intro w' hLat; change Below _ _ _ at hLat; go_simp <;> with_reducible rfl
            try simp only [Act.put, List.setIfInBounds_toArray, List.set_cons_zero, List.set_cons_succ, List.getElem_toArray, List.getElem_cons_zero, List.getElem_cons_succ]
            refine Seq.take_lat (i := 6) (v := ?_) rfl (by kernel_rfl) (by kernel_rfl) (by kernel_rfl) (fun _ _ _ h => h) (by rfl) ?_ ?_
            rotate_left
            · intro w' hLat; change Below _ _ _ at hLat; go_simp <;> with_reducible rfl
            try simp only [Act.put, List.setIfInBounds_toArray, List.set_cons_zero, List.set_cons_succ, List.getElem_toArray, List.getElem_cons_zero, List.getElem_cons_succ]
            refine Seq.take_lat (i := 7) (v := ?_) rfl (by kernel_rfl) (by kernel_rfl) (by kernel_rfl) (fun _ _ _ h => h) (by rfl) ?_ ?_
            rotate_left
            · intro w' hLat; change Below _ _ _ at hLat; go_simp <;> with_reducible rfl
            try simp only [Act.put, List.setIfInBounds_toArray, List.set_cons_zero, List.set_cons_succ, List.getElem_toArray, List.getElem_cons_zero, List.getElem_cons_succ]
            refine Seq.take_lat (i := 8) (v := ?_) rfl (by kernel_rfl) (by kernel_rfl) (by kernel_rfl) (fun _ _ _ h => h) (by rfl) ?_ ?_
            rotate_left
            · intro w' hLat; change Below _ _ _ at hLat; go_simp <;> with_reducible rfl
            try simp only [Act.put, List.setIfInBounds_toArray, List.set_cons_zero, List.set_cons_succ, List.getElem_toArray, List.getElem_cons_zero, List.getElem_cons_succ]
            refine Seq.take_lat (i := 9) (v := ?_) rfl (by kernel_rfl) (by kernel_rfl) (by kernel_rfl) (fun _ _ _ h => h) (by rfl) ?_ ?_
            rotate_left
            · intro w' hLat; change Below _ _ _ at hLat; go_simp <;> with_reducible rfl
            try simp only [Act.put, List.setIfInBounds_toArray, List.set_cons_zero, List.set_cons_succ, List.getElem_toArray, List.getElem_cons_zero, List.getElem_cons_succ]
            refine Seq.take_lat (i := 10) (v := ?_) rfl (by kernel_rfl) (by kernel_rfl) (by kernel_rfl) (fun _ _ _ h => h) (by rfl) ?_ ?_
            rotate_left
            · intro w' hLat; change Below _ _ _ at hLat; go_simp <;> with_reducible rfl
            try simp only [Act.put, List.setIfInBounds_toArray, List.set_cons_zero, List.set_cons_succ, List.getElem_toArray, List.getElem_cons_zero, List.getElem_cons_succ]
            refine Seq.take_lat (i := 11) (v := ?_) rfl (by kernel_rfl) (by kernel_rfl) (by kernel_rfl) (fun _ _ _ h => h) (by rfl) ?_ ?_
            rotate_left
            · intro w' hLat; change Below _ _ _ at hLat; go_simp <;> with_reducible rfl
            try simp only [Act.put, List.setIfInBounds_toArray, List.set_cons_zero, List.set_cons_succ, List.getElem_toArray, List.getElem_cons_zero, List.getElem_cons_succ]
            refine Seq.take_lat (i := 12) (v := ?_) rfl (by kernel_rfl) (by kernel_rfl) (by kernel_rfl) (fun _ _ _ h => h) (by rfl) ?_ ?_
            rotate_left
            · intro w' hLat; change Below _ _ _ at hLat; go_simp <;> with_reducible rfl
            try simp only [Act.put, List.setIfInBounds_toArray, List.set_cons_zero, List.set_cons_succ, List.getElem_toArray, List.getElem_cons_zero, List.getElem_cons_succ]
            refine Seq.take_lat (i := 13) (v := ?_) rfl (by kernel_rfl) (by kernel_rfl) (by kernel_rfl) (fun _ _ _ h => h) (by rfl) ?_ ?_
            rotate_left
            · intro w' hLat; change Below _ _ _ at hLat; go_simp <;> with_reducible rfl
            try simp only [Act.put, List.setIfInBounds_toArray, List.set_cons_zero, List.set_cons_succ, List.getElem_toArray, List.getElem_cons_zero, List.getElem_cons_succ]
            refine wpAnyH_done (by kernel_rfl) ?_ _
            go_wp2
            go_ret
            exact ⟨rfl, HD.out.2⟩
        · obtain ⟨hE, hTZ⟩ := HG.out hv
          subst hE
          have f1 : ¬ (48 : Int) ≤ c := by omega
          have f1' : decide ((48 : Int) ≤ c) = false := by simp; omega
          have f2 : ¬ (97 : Int) ≤ c := by omega
          have f2' : decide ((97 : Int) ≤ c) = false := by simp; omega
          have eTZ := eq_same25 T hTl
          have HTF : Box (fil8 [] 32 = u8s T) := ⟨by rw [hTZ]; rfl⟩
          clear hTZ
          go_wp2_with (first | (refine wpList_see25 g11 T _ HZ.out.1 (.head _) (.tmp 11) rfl rfl (by rfl) ?_) | (refine wpList_wbuild25 (by rfl) rfl ?_; rw [HTF.out]))
          go_ret
          exact ⟨rfl, HZ.out.2⟩
        · obtain ⟨hE, hTZ⟩ := HG.out hv
          subst hE
          have f0 : (48 : Int) ≤ c := by omega
          have f1 : ¬ c ≤ 57 := by omega
          have f1' : decide (c ≤ 57) = false := by simp; omega
          have f2 : ¬ (97 : Int) ≤ c := by omega
          have f2' : decide ((97 : Int) ≤ c) = false := by simp; omega
          have eTZ := eq_same25 T hTl
          have HTF : Box (fil8 [] 32 = u8s T) := ⟨by rw [hTZ]; rfl⟩
          clear hTZ
          go_wp2_with (first | (refine wpList_see25 g11 T _ HZ.out.1 (.head _) (.tmp 11) rfl rfl (by rfl) ?_) | (refine wpList_wbuild25 (by rfl) rfl ?_; rw [HTF.out]))
          go_ret
          exact ⟨rfl, HZ.out.2⟩
        · obtain ⟨hE, hTZ⟩ := HG.out hv
          subst hE
          have f0 : (48 : Int) ≤ c := by omega
          have f1 : ¬ c ≤ 57 := by omega
          have f1' : decide (c ≤ 57) = false := by simp; omega
          have f2 : (97 : Int) ≤ c := by omega
          have f3 : ¬ c ≤ 102 := by omega
          have f3' : decide (c ≤ 102) = false := by simp; omega
          have eTZ := eq_same25 T hTl
          have HTF : Box (fil8 [] 32 = u8s T) := ⟨by rw [hTZ]; rfl⟩
          clear hTZ
          go_wp2_with (first | (refine wpList_see25 g11 T _ HZ.out.1 (.head _) (.tmp 11) rfl rfl (by rfl) ?_) | (refine wpList_wbuild25 (by rfl) rfl ?_; rw [HTF.out]))
          go_ret
          exact ⟨rfl, HZ.out.2⟩
theorem digestDigits_walk (D : List Int) (at' c : Int) (w : World) (hT : Tabs w) (hl : D.length = 32) (hD : Byt D) (h1 : (Lit.int .u8 at').wf = true) (h2 : (Lit.int .u8 c).wf = true) :
    Calls Tryd.prog 7 #[.agg (u8s D), .int .u8 at', .int .u8 c] w fun e w' => e = .returned (.bool true) ∧ Below w.heap.size w w' := by
  have b1 := bounds_u8 h1
  have b2 := bounds_u8 h2
  refine digits_any D at' c w hT hD hl (by omega) (by omega) ?_
  by_cases q : 48 ≤ c ∧ c ≤ 57
  · exact .inl ⟨by simp [vo, q.1, q.2], q.1, q.2⟩
  · by_cases r : 97 ≤ c ∧ c ≤ 102
    · exact .inr (.inl ⟨by simp [vo, r.1, r.2], by omega, r.1, r.2⟩)
    · have hv : vo c = false := by simp [vo]; omega
      by_cases s : c < 48
      · exact .inr (.inr (.inl ⟨hv, s⟩))
      · by_cases s2 : c < 97
        · exact .inr (.inr (.inr (.inl ⟨hv, by omega, s2⟩)))
        · exact .inr (.inr (.inr (.inr ⟨hv, by omega⟩)))
end Go.Proofs.YtanpbceppjpblaaDoor
