/-
  The walk of DigestReads: any digits are the digest that the document says, or refused; a digest's digits are read as it.
-/
import Derived.Test.YteeahghoooiiaaaDoorD2
import Derived.Test.YteeahghoooiiaaaDoorQ1
namespace Go.Proofs.YteeahghoooiiaaaDoor
set_option linter.unusedVariables false
open Go.RowKit Plain

theorem eq_same25 (X : List Int) (h : X.length = 32) (w : World) : (binOp .eql 25 (.agg (u8s X)) (.agg (u8s X))).run Tryd.prog w = .ok (.bool true) w := by
  rw [eq25 X X h h]; simp
/-- In these blocks stand these digests. -/
def Stand (x : World) (l : List (Nat × List Int)) : Prop := ∀ p ∈ l, p.2.length = 32 ∧ x.heap[p.1]? = some (.cells (u8s p.2) 25 (0, 0))
theorem Stand.nil (x : World) : Stand x [] := fun p hp => by cases hp
theorem Stand.below {x y : World} {l : List (Nat × List Int)} (h : Stand x l) (hb : Below x.heap.size x y) : Stand y l := fun p hp =>
  ⟨(h p hp).1, (hb.block _ (Array.getElem?_eq_some_iff.1 (h p hp).2).1).trans (h p hp).2⟩
/-- What is known of a world on the way: what stands where, and that nothing that was there has turned. -/
def Way (w x : World) (l : List (Nat × List Int)) : Prop := Stand x l ∧ Below w.heap.size w x
theorem Way.on {w x y : World} {l : List (Nat × List Int)} (h : Way w x l) (hb : Below x.heap.size x y) : Way w y l := ⟨h.1.below hb, h.2.trans (hb.mono h.2.size)⟩
theorem wpList_new25 {ops : Array Oper} {rest : List Oper} {o : Oper} {a : Act} {v : World} {Q : Exit → Act → World → Prop} (w0 w : World) (l : List (Nat × List Int)) (X : List Int) (hX : X.length = 32) (H : Way w0 w l) (old : Array Value) (hold : old.size = 32) (hgd : o.guard = none) (x y : Operand) (ho : o.op = .store 25 x y)
    (hx : a.eval x = .pointer (some ⟨w.heap.size, 0, none⟩)) (hy : a.eval y = .agg (u8s X)) (hv : v = w.alloc (.cells old 25))
    (h : ∀ z, Box (Way w0 z ((w.heap.size, X) :: l)) → wpList Tryd.prog ops Q rest (a.put o.dst undef) z) : wpList Tryd.prog ops Q (o :: rest) a v := by
  subst hv
  have hs : (u8s X).size = 32 := by rw [size_u8s, hX]
  refine wpList_lay25 X hs hgd x y ho w.heap.size old hx hy (al_at rfl) hold w.heap.size w ((Below.refl _ _).alloc (Nat.le_refl _) _) (Nat.le_refl _) (fun z hz => h z ⟨?_, ?_⟩)
  · intro p hp
    simp only [List.mem_cons] at hp
    rcases hp with rfl | hp
    · exact ⟨hX, hz.out.1⟩
    · exact ⟨(H.1 p hp).1, (hz.out.2.1.block _ (Array.getElem?_eq_some_iff.1 (H.1 p hp).2).1).trans (H.1 p hp).2⟩
  · exact H.2.trans (hz.out.2.1.mono H.2.size)
theorem wpList_see25 {ops : Array Oper} {rest : List Oper} {o : Oper} {a : Act} {w : World} {Q : Exit → Act → World → Prop} (g : Nat) (X : List Int) (l : List (Nat × List Int)) (hS : Stand w l) (hm : (g, X) ∈ l) (x : Operand) (ho : o.op = .load 25 x)
    (hx : a.eval x = .pointer (some ⟨g, 0, none⟩)) (hw : Region.wanted o (yielded ops a.tmps) = true)
    (h : wpList Tryd.prog ops Q rest (a.put o.dst (.agg (u8s X))) w) : wpList Tryd.prog ops Q (o :: rest) a w :=
  wpList_get25 X (by rw [size_u8s, (hS _ hm).1]) x ho g hx (hS _ hm).2 hw h

theorem read_both (S : ByteArray) (hs : S.size ≤ maxLen) : ∃ X E, X.length = 32 ∧ (∀ w, Calls Tryd.prog 15 #[.string S] w fun e w' => e = .returned (.tuple #[.agg (u8s X), .int .i64 E]) ∧ Below w.heap.size w w') ∧ ∀ w, Calls Tryd.prog 16 #[.string S] w fun e w' => e = .returned (.tuple #[.agg (u8s X), .int .i64 E]) ∧ Below w.heap.size w w' := by
  by_cases h : S.size = 64
  · cases hd : allDig (nums S)
    · refine ⟨List.replicate 32 0, 11, by simp, fun w => ?_, fun w => ?_⟩
      · refine (read_dig S w h).mono ?_
        rintro e w' ⟨rfl, hb⟩
        exact ⟨rdEnd_no hd, hb⟩
      · refine (rread_dig S w h).mono ?_
        rintro e w' ⟨rfl, hb⟩
        exact ⟨rdEnd_no hd, hb⟩
    · refine ⟨rdl (nums S) 32, 0, length_rdl _ _, fun w => ?_, fun w => ?_⟩
      · refine (read_dig S w h).mono ?_
        rintro e w' ⟨rfl, hb⟩
        exact ⟨rdEnd_yes hd, hb⟩
      · refine (rread_dig S w h).mono ?_
        rintro e w' ⟨rfl, hb⟩
        exact ⟨rdEnd_yes hd, hb⟩
  · exact ⟨List.replicate 32 0, 11, by simp, fun w => read_len S w h hs, fun w => rread_len S w h hs⟩
theorem read_hex (D : List Int) (hD : Byt D) (hl : D.length = 32) (w : World) : Calls Tryd.prog 15 #[.string (strOfNums (hexL D 32))] w fun e w' => e = .returned (.tuple #[.agg (u8s D), .int .i64 0]) ∧ Below w.heap.size w w' := by
  have h64 : (strOfNums (hexL D 32)).size = 64 := by rw [strOfNums_size, length_hexL]
  obtain ⟨N, HN⟩ : ∃ N, Box (strOfNums (hexL D 32) = N) := ⟨_, ⟨rfl⟩⟩
  rw [HN.out] at h64 ⊢
  refine (read_dig N w h64).mono ?_
  rintro e w' ⟨rfl, hb⟩
  refine ⟨?_, hb⟩
  rw [← HN.out, nums_str _ (byt_hexL D 32), rdEnd_yes (allDig_yes fun i hi => vo_hexL D 32 i hD (by omega)), rdl_hexL D 32 hD hl]

set_option maxRecDepth 20000 in
set_option maxHeartbeats 900000 in
theorem reads_in (S : ByteArray) (D : List Int) (w : World) (hT : Tabs w) (hD : Byt D) (hl : D.length = 32) (hs : S.size ≤ 300) :
    Calls Tryd.prog 5 #[.string S, .agg (u8s D)] w fun e w' => e = .returned (.bool true) ∧ Below w.heap.size w w' := by
  obtain ⟨X, E, hX, hc1, hc2⟩ := read_both S (by unfold maxLen; omega)
  have h1 : ¬ 300 < (S.size : Int) := by omega
  have HC : Box ((∀ w, Calls Tryd.prog 15 #[.string S] w fun e w' => e = .returned (.tuple #[.agg (u8s X), .int .i64 E]) ∧ Below w.heap.size w w') ∧ ∀ w, Calls Tryd.prog 16 #[.string S] w fun e w' => e = .returned (.tuple #[.agg (u8s X), .int .i64 E]) ∧ Below w.heap.size w w') := ⟨hc1, hc2⟩
  obtain ⟨N, HN⟩ : ∃ N, Box (strOfNums (hexL D 32) = N) := ⟨_, ⟨rfl⟩⟩
  have HH : Box ((∀ w, Calls Tryd.prog 12 #[.agg (u8s D)] w fun e w' => e = .returned (.string N) ∧ Below w.heap.size w w') ∧ ∀ w, Calls Tryd.prog 15 #[.string N] w fun e w' => e = .returned (.tuple #[.agg (u8s D), .int .i64 0]) ∧ Below w.heap.size w w') := ⟨by rw [← HN.out]; exact ⟨fun x => hex_any D x hD hl, fun x => read_hex D hD hl x⟩⟩
  have eX := eq_same25 X hX
  have eD := eq_same25 D hl
  have HT : Box (∀ x, Below w.heap.size w x → Tabs x) := ⟨fun x hx => hT.below hx⟩
  have H0 : Box (Way w (w.alloc (.cells (u8s D) 25)) [(w.heap.size, D)]) := ⟨fun p hp => by
    simp only [List.mem_singleton] at hp
    subst hp
    exact ⟨hl, al_at rfl⟩, (Below.refl _ _).alloc (Nat.le_refl _) _⟩
  clear hT hc1 hc2
  go_enter Tryd.func5, Tryd.ntmps5
  go_wp2_with (first
    | (refine wpList_see25 w5.heap.size D _ H7.out.1 (.head _) (.tmp 10) rfl rfl (by rfl) ?_)
    | (refine wpList_see25 w.heap.size D _ H7.out.1 (.tail _ (.tail _ (.tail _ (.head _)))) (.tmp 3) rfl rfl (by rfl) ?_)
    | (refine wpList_see25 w2.heap.size X _ H7.out.1 (.tail _ (.tail _ (.head _))) (.tmp 6) rfl rfl (by rfl) ?_)
    | (refine wpList_see25 w3.heap.size X _ H7.out.1 (.tail _ (.head _)) (.tmp 8) rfl rfl (by rfl) ?_)
    | (refine wpList_new25 w w5 _ D hl H6.out ?old ?hold rfl (.tmp 10) (.tmp 32) rfl rfl rfl ?hv ?_; (case hv => rfl); (case hold => rfl); intro z7 H7)
    | (go_at_call 15; refine Calls.mono (HH.out.2 w4) ?_; rintro e w5 ⟨rfl, hb5⟩; have H6 : Box (Way w w5 [(w3.heap.size, X), (w2.heap.size, X), (w.heap.size, D)]) := ⟨H5.out.on hb5⟩; clear hb5)
    | (go_at_call 12; refine Calls.mono (HH.out.1 z4) ?_; rintro e w4 ⟨rfl, hb4⟩; have H5 : Box (Way w w4 [(w3.heap.size, X), (w2.heap.size, X), (w.heap.size, D)]) := ⟨H4.out.on hb4⟩; clear hb4)
    | (refine wpList_see25 w.heap.size D _ H4.out.1 (.tail _ (.tail _ (.head _))) (.tmp 3) rfl rfl (by rfl) ?_)
    | (refine wpList_new25 w w3 _ X hX H3.out ?old ?hold rfl (.tmp 8) (.tmp 26) rfl rfl rfl ?hv ?_; (case hv => rfl); (case hold => rfl); intro z4 H4)
    | (go_at_call 16; refine Calls.mono (HC.out.2 z2) ?_; rintro e w3 ⟨rfl, hb3⟩; have H3 : Box (Way w w3 [(w2.heap.size, X), (w.heap.size, D)]) := ⟨H2.out.on hb3⟩; clear hb3)
    | (refine wpList_new25 w w2 _ X hX H1.out ?old ?hold rfl (.tmp 6) (.tmp 21) rfl rfl rfl ?hv ?_; (case hv => rfl); (case hold => rfl); intro z2 H2)
    | (go_at_call 15; refine Calls.mono (HC.out.1 w1) ?_; rintro e w2 ⟨rfl, hb2⟩; have H1 : Box (Way w w2 [(w.heap.size, D)]) := ⟨HA.out.on hb2⟩; clear hb2)
    | (go_at_call 9; refine (awake_any _ (HT.out _ H0.out.2)).mono ?_; rintro e w1 ⟨rfl, hb1⟩; have HA : Box (Way w w1 [(w.heap.size, D)]) := ⟨H0.out.on hb1⟩; clear hb1))
  go_ret
  exact ⟨rfl, H7.out.2⟩
end Go.Proofs.YteeahghoooiiaaaDoor
