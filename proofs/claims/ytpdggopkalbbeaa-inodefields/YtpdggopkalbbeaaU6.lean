/-
  What the Go function Put of package word answers, for every number and length.
-/
import Derived.Test.YtpdggopkalbbeaaU5
import Derived.Test.YtpdggopkalbbeaaU2
namespace Go.Proofs.Ytpdggopkalbbeaa
set_option linter.unusedVariables false
open Go.RowKit Plain

theorem Try.info5 : (Try.prog.info? 5).map (fun i => (i.zero, i.size, i.bytes)) = some (some (.int .u8 0), 1, 1) := by kernel_rfl

set_option maxHeartbeats 400000 in
theorem put_no (x n : Int) (w : World) (h : n < 1 ∨ 8 < n) :
    Calls Try.prog 16 #[.int .u64 x, .int .i64 n] w fun e w' => e = .returned (.slice none 0 0) ∧ w = w' := by
  go_enter Try.func16, Try.ntmps16
  go_wp2_with (go_at_call 23; refine (fits_no _ _ h).mono ?_; rintro e w' ⟨rfl, rfl⟩)
  go_ret
  exact ⟨rfl, rfl⟩

theorem splice_full (n : Nat) (x : Int) : splice (List.replicate n (Value.int .u8 0)) 0 (bys x n) = bys x n := by
  have := length_bys x n
  simp [splice, this]

set_option maxHeartbeats 400000 in
theorem put_ok (x : Int) (n : Nat) (w : World) (hx0 : 0 ≤ x) (hx1 : x ≤ 18446744073709551615) (h1 : 1 ≤ n) (h2 : n ≤ 8) :
    Calls Try.prog 16 #[.int .u64 x, .int .i64 n] w fun e w' => ∃ g, e = .returned (.slice (some ⟨g, 0, none⟩) n n) ∧ Out w w' (some ⟨g, 0, none⟩) n n (bytesOf x n) := by
  obtain ⟨i0, hi, hz0, hz1, hz2⟩ := info_parts Try.info5
  go_enter Try.func16, Try.ntmps16
  go_wp2_with (first | (go_at_call 23; refine (fits_yes _ _ (by omega) (by omega)).mono ?_; rintro e w' ⟨rfl, rfl⟩) | (at_make; refine wpList_make_full _ rfl (.tmp 9) (.tmp 9) 27 rfl _ 5 i0 (.int .u8 0) 1 Try.underlying27 hi hz0 hz1 _ _ _ _ n rfl rfl rfl rfl (by rw [hz2]; omega) (by unfold maxLen; omega) (Nat.le_refl _) ?_; intro w1 hown hgrow; have HR := made_row hown; clear hown))
  refine (lay_any _ 0 n n _ x _ hx0 hx1 h2 HR (by simp)).mono ?_
  rintro e w2 ⟨rfl, hr, hgr, _⟩
  rw [splice_full] at hr
  have hbl := ((Below.refl w.heap.size w).grown hgrow (Nat.le_refl _) (by simp)).grown hgr hgrow.size (by simp)
  clear HR hgrow hgr
  go_wp2
  go_ret
  exact ⟨_, rfl, Out.of_row (length_bytesOf x n) (by unfold maxLen; omega) (Nat.le_refl _) hr hbl⟩

end Go.Proofs.Ytpdggopkalbbeaa
