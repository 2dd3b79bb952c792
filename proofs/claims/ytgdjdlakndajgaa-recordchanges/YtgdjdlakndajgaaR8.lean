/-
  The reference's Put and Get of records.
-/
import Derived.Test.YtgdjdlakndajgaaR7
namespace Go.Proofs.Ytgdjdlakndajgaa
set_option linter.unusedVariables false
open Go.RowKit Plain

theorem rput8 (x : Int) (w : World) (hx : N64 x) :
    Calls Try.prog 24 #[.int .u64 x, .int .i64 8] w fun e w' => ∃ a c, e = .returned (.slice a 8 c) ∧ Bytes w' a 8 (bytesOf x 8) ∧ Below w.heap.size w w' :=
  (rput_any x 8 8 w hx rfl (by omega)).mono fun e w' ⟨a, c, he, ho⟩ => ⟨a, c, he, ho.bytes (bytesOf_bd _ 8), ho.2.2⟩
theorem b257 : bytesOf 257 8 = [1, 1, 0, 0, 0, 0, 0, 0] := by decide
theorem b1 : bytesOf 1 8 = [1, 0, 0, 0, 0, 0, 0, 0] := by decide
theorem own_row8 {w : World} {g B : Nat} {A : List Int} (hl : A.length = 8) (hB : B ≤ g) (h : w.heap[g]? = some (.cells (u8s A) 5 (0, 0))) : w.ownsRow B 5 1 (.slice (some ⟨g, 0, none⟩) 8 8) 8 (A.map (Value.int .u8)) :=
  ⟨by simp [hl], .inr ⟨g, 8, _, rfl, hB, h, Nat.le_refl _, by decide, by simp [u8s, hl], by simp [u8s]; rw [List.take_of_length_le (by simp [hl])]⟩⟩
theorem exec_cat {o : Oper} {ρ : Operand → Value} {w' : World} (x y : Operand) (ty : TypeId) (ho : o.op = .binOp .add 9 x y ty) (a b : ByteArray) (hx : ρ x = .string a) (hy : ρ y = .string b) (hab : a.size + b.size ≤ 9223372036854775807) :
    (execOp ρ o).run Try.prog w' = .ok (.value (.string (a ++ b))) w' := by
  unfold execOp
  simp [ho, hx, hy, eqGuard, binOp, Op.stringOp]
  omega
set_option maxHeartbeats 400000 in
theorem rrput_bad (x : (Int × List Int) × Bool) (hl : ¬ x.1.2.length = 160) (w : World) :
    Calls Try.prog 11 #[.agg (rrc x).toArray] w fun e w' => e = .returned (.tuple #[.string ByteArray.empty, .int .i64 1]) ∧ Below w.heap.size w w' := by
  obtain ⟨⟨blk, L⟩, last⟩ := x
  simp only at hl
  unfold rrc
  simp only
  obtain ⟨s, hs⟩ : ∃ s, strOfNums L = s := ⟨_, rfl⟩
  have hsz : ¬ s.size = 160 := by rw [← hs, str_size]; exact hl
  have hsz2 : ((s.size : Int) != 160) = true := by simp; omega
  rw [hs]
  obtain ⟨S, hS⟩ : ∃ S, w.heap.size = S := ⟨_, rfl⟩
  obtain ⟨w1, hw1⟩ : ∃ w1, w.alloc (.cells #[.int .u64 blk, .string s, .bool last] 39) = w1 := ⟨_, rfl⟩
  have r1 : w1.heap[S]? = some (.cells #[.int .u64 blk, .string s, .bool last] 39 (0, 0)) := by rw [← hw1]; exact al_at hS
  have c1 : w1.cell? ⟨S, 1, none⟩ = some (.string s) := by rw [cell_of_row _ _ _ _ _ _ r1]; rfl
  have HB : Box (Below w.heap.size w w1) := ⟨by rw [← hw1]; exact (Below.refl _ _).alloc (Nat.le_refl _) _⟩
  clear r1 hs hl
  go_enter Try.func11, Try.ntmps11
  go_upto_region 1 with fail
  (try simp only [hw1, hS])
  go_wp2
  go_ret2
  exact ⟨rfl, HB.out⟩
set_option maxRecDepth 20000 in
set_option maxHeartbeats 1000000 in
theorem rrput_ok (x : (Int × List Int) × Bool) (hl : x.1.2.length = 160) (hn : N64 x.1.1) (w : World) :
    Calls Try.prog 11 #[.agg (rrc x).toArray] w fun e w' => e = .returned (.tuple #[.string (strOfNums (putP x)), .int .i64 0]) ∧ Below w.heap.size w w' := by
  obtain ⟨⟨blk, L⟩, last⟩ := x
  simp only at hl hn
  unfold rrc
  simp only
  obtain ⟨s, hs⟩ : ∃ s, strOfNums L = s := ⟨_, rfl⟩
  have hsz : s.size = 160 := by rw [← hs, str_size]; exact hl
  rw [hs]
  obtain ⟨sr, HSR⟩ : ∃ sr, Box (strOfNums (putP ((blk, L), last)) = sr) := ⟨_, ⟨rfl⟩⟩
  rw [HSR.out]
  obtain ⟨sh, HSH⟩ : ∃ sh, Box (strOfNums (bytesOf (hd last) 8 ++ bytesOf blk 8) = sh) := ⟨_, ⟨rfl⟩⟩
  have HSM : Box (sh.size + s.size ≤ 9223372036854775807) := ⟨by rw [← HSH.out, str_size, hsz]; simp [length_bytesOf]⟩
  have hcat : sh ++ s = sr := by rw [← HSH.out, ← hs, ← HSR.out, str_app]; rfl
  obtain ⟨S, hS⟩ : ∃ S, w.heap.size = S := ⟨_, rfl⟩
  obtain ⟨w1, hw1⟩ : ∃ w1, w.alloc (.cells #[.int .u64 blk, .string s, .bool last] 39) = w1 := ⟨_, rfl⟩
  have hb1 : Below w.heap.size w w1 := by rw [← hw1]; exact (Below.refl _ _).alloc (Nat.le_refl _) _
  have hs1 : w1.heap.size = S + 1 := by rw [← hw1]; simp [hS]
  have r1 : w1.heap[S]? = some (.cells #[.int .u64 blk, .string s, .bool last] 39 (0, 0)) := by rw [← hw1]; exact al_at hS
  have HR : Box (∀ y, Below (S + 1) w1 y → y.cell? ⟨S, 0, none⟩ = some (.int .u64 blk) ∧ y.cell? ⟨S, 1, none⟩ = some (.string s) ∧ y.cell? ⟨S, 2, none⟩ = some (.bool last)) := ⟨fun y hy => by
    have r := (hy.block S (by omega)).trans r1
    exact ⟨by rw [cell_of_row _ _ _ _ _ _ r]; rfl, by rw [cell_of_row _ _ _ _ _ _ r]; rfl, by rw [cell_of_row _ _ _ _ _ _ r]; rfl⟩⟩
  have HB : Box (Below w.heap.size w w1 ∧ w.heap.size = S) := ⟨hb1, hS⟩
  have c1 := (HR.out w1 (Below.refl _ _)).2.1
  obtain ⟨w2, hw2⟩ : ∃ w2, w1.alloc (.cells #[.int .u8 1, .int .u8 0, .int .u8 0, .int .u8 0, .int .u8 0, .int .u8 0, .int .u8 0, .int .u8 0] 5) = w2 := ⟨_, rfl⟩
  have hb2 : Below (S + 1) w1 w2 := by rw [← hw2]; exact (Below.refl _ _).alloc (by omega) _
  have r2 : w2.heap[S + 1]? = some (.cells (u8s [1, 0, 0, 0, 0, 0, 0, 0]) 5 (0, 0)) := by rw [← hw2]; exact al_at hs1
  have c22 := (HR.out w2 hb2).2.2
  have hs2 : S + 1 ≤ w2.heap.size := by rw [← hw2]; simp; omega
  have HE : Box (∀ y, y.heap[S + 1]? = some (.cells (u8s (bytesOf (hd last) 8)) 5 (0, 0)) → Below (S + 1) w1 y → S + 1 ≤ y.heap.size → Pu w1 y (S + 1) (.slice (some ⟨S + 1, 0, none⟩) 8 8) 8 (bytesOf (hd last) 8)) := ⟨fun y h1 h2 h3 => ⟨own_row8 (length_bytesOf _ _) (Nat.le_refl _) h1, h2, h3⟩⟩
  have key : ∀ w3 : World, Box (Pu w1 w3 (S + 1) (.slice (some ⟨S + 1, 0, none⟩) 8 8) 8 (bytesOf (hd last) 8)) → True := fun _ _ => trivial
  clear hs hl r1
  cases last
  · have HP : Box (Pu w1 w2 (S + 1) (.slice (some ⟨S + 1, 0, none⟩) 8 8) 8 (bytesOf (hd false) 8)) := ⟨HE.out w2 (by show _ = some (Obj.cells (u8s (bytesOf 1 8)) 5 (0, 0)); rw [b1]; exact r2) hb2 hs2⟩
    clear hb2 r2 hs2 hb1
    go_enter Try.func11, Try.ntmps11
    go_upto_region 1 with fail
    (try simp only [hw1, hS])
    go_upto_region 4 with fail
    (try simp only [hs1, hw2])
    clear hw1 hw2 hS hs1
    go_upto_region 6 with fail
    have c0 := (HR.out w2 HP.out.2.1).1
    go_upto_region 7 with (first
      | (go_at_call 24; refine (rput8 blk _ hn).mono ?_; rintro e x5 ⟨a5, c5, rfl, hB, hb⟩; have H5 : Box (Pu w1 x5 (S + 1) (.slice (some ⟨S + 1, 0, none⟩) 8 8) 8 (bytesOf (hd false) 8) ∧ Bytes x5 a5 8 (bytesOf blk 8)) := ⟨HP.out.below hb, hB⟩; clear hB hb c0)
      | (at_builtin; refine wpList_app rfl (.tmp 15) (.tmp 19) rfl (S + 1) 8 8 c5 _ (bytesOf (hd false) 8) (bytesOf blk 8) _ x5 rfl rfl H5.out.1.1 H5.out.2 (by decide) (Below.refl _ _) H5.out.1.2.2 ?_; intro v6 x6 h6; have H6 : Box (Pu w1 x6 (S + 1) v6 (8 + 8) (bytesOf (hd false) 8 ++ bytesOf blk 8)) := ⟨H5.out.1.app h6⟩; clear h6))
    have H7 : Box (Pu w1 x6 (S + 1) v6 16 (bytesOf (hd false) 8 ++ bytesOf blk 8)) := ⟨H6.out⟩
    obtain ⟨a7, c7, rfl⟩ := own_form H7.out.1
    have HBy : Box (Bytes x6 a7 16 (bytesOf (hd false) 8 ++ bytesOf blk 8)) := ⟨own_bytes H7.out.1 (byt_app _ _ (bytesOf_bd _ _) (bytesOf_bd _ _))⟩
    have HCv : Box (∀ o : Oper, ∀ a : Act, o.op = .convert 23 9 (.tmp 21) → a.eval (.tmp 21) = .slice a7 16 c7 → (execOp a.eval o).run Try.prog x6 = .ok (.value (.string sh)) x6) := ⟨fun o a h1 h2 => by rw [← HSH.out]; exact exec_conv (.tmp 21) h1 h2 HBy.out⟩
    have c6 := (HR.out x6 H7.out.2.1).2.1
    clear H6 H5 HP
    go_wp2_with (first | (refine atConv _ _ ?_; refine wpList_run rfl _ _ (HCv.out _ _ rfl rfl) ?_) | (refine atBin .add 9 ?_; refine wpList_run rfl _ _ (exec_cat _ _ _ rfl sh s rfl rfl HSM.out) ?_; rw [hcat]))
    go_ret2
    exact ⟨rfl, HB.out.1.trans (H7.out.2.1.mono (by have := HB.out.2; omega))⟩
  · obtain ⟨w3, hw3⟩ : ∃ w3, w2.setCell ⟨S + 1, 1, none⟩ (.int .u8 1) = w3 := ⟨_, rfl⟩
    have r3 : w3.heap[S + 1]? = some (.cells (u8s [1, 1, 0, 0, 0, 0, 0, 0]) 5 (0, 0)) := by rw [← hw3, heap_setCell_same w2 (S + 1) 1 _ 5 _ r2]; rfl
    have HP : Box (Pu w1 w3 (S + 1) (.slice (some ⟨S + 1, 0, none⟩) 8 8) 8 (bytesOf (hd true) 8)) := ⟨HE.out w3 (by show _ = some (Obj.cells (u8s (bytesOf 257 8)) 5 (0, 0)); rw [b257]; exact r3) (by rw [← hw3]; exact below_set hb2 (Nat.le_refl _) _) (by rw [← hw3]; simpa using hs2)⟩
    have hf : w2.frozen? ⟨S + 1, 1, none⟩ = false := frozen_of_row w2 (S + 1) 1 _ 5 r2
    have hc : w2.cell? ⟨S + 1, 1, none⟩ = some (.int .u8 0) := by rw [cell_of_row _ _ _ _ _ _ r2]; rfl
    clear hb2 r2 hs2 hb1 r3
    go_enter Try.func11, Try.ntmps11
    go_upto_region 1 with fail
    (try simp only [hw1, hS])
    go_upto_region 4 with fail
    (try simp only [hs1, hw2])
    clear hw1 hw2 hS hs1
    go_upto_region 6 with fail
    (try simp only [hw3])
    clear hw3 hf hc
    have c0 := (HR.out w3 HP.out.2.1).1
    go_upto_region 7 with (first
      | (go_at_call 24; refine (rput8 blk _ hn).mono ?_; rintro e x5 ⟨a5, c5, rfl, hB, hb⟩; have H5 : Box (Pu w1 x5 (S + 1) (.slice (some ⟨S + 1, 0, none⟩) 8 8) 8 (bytesOf (hd true) 8) ∧ Bytes x5 a5 8 (bytesOf blk 8)) := ⟨HP.out.below hb, hB⟩; clear hB hb c0)
      | (at_builtin; refine wpList_app rfl (.tmp 15) (.tmp 19) rfl (S + 1) 8 8 c5 _ (bytesOf (hd true) 8) (bytesOf blk 8) _ x5 rfl rfl H5.out.1.1 H5.out.2 (by decide) (Below.refl _ _) H5.out.1.2.2 ?_; intro v6 x6 h6; have H6 : Box (Pu w1 x6 (S + 1) v6 (8 + 8) (bytesOf (hd true) 8 ++ bytesOf blk 8)) := ⟨H5.out.1.app h6⟩; clear h6))
    have H7 : Box (Pu w1 x6 (S + 1) v6 16 (bytesOf (hd true) 8 ++ bytesOf blk 8)) := ⟨H6.out⟩
    obtain ⟨a7, c7, rfl⟩ := own_form H7.out.1
    have HBy : Box (Bytes x6 a7 16 (bytesOf (hd true) 8 ++ bytesOf blk 8)) := ⟨own_bytes H7.out.1 (byt_app _ _ (bytesOf_bd _ _) (bytesOf_bd _ _))⟩
    have HCv : Box (∀ o : Oper, ∀ a : Act, o.op = .convert 23 9 (.tmp 21) → a.eval (.tmp 21) = .slice a7 16 c7 → (execOp a.eval o).run Try.prog x6 = .ok (.value (.string sh)) x6) := ⟨fun o a h1 h2 => by rw [← HSH.out]; exact exec_conv (.tmp 21) h1 h2 HBy.out⟩
    have c6 := (HR.out x6 H7.out.2.1).2.1
    clear H6 H5 HP
    go_wp2_with (first | (refine atConv _ _ ?_; refine wpList_run rfl _ _ (HCv.out _ _ rfl rfl) ?_) | (refine atBin .add 9 ?_; refine wpList_run rfl _ _ (exec_cat _ _ _ rfl sh s rfl rfl HSM.out) ?_; rw [hcat]))
    go_ret2
    exact ⟨rfl, HB.out.1.trans (H7.out.2.1.mono (by have := HB.out.2; omega))⟩
end Go.Proofs.Ytgdjdlakndajgaa
