/-
  What the Go function Derive of package keys answers, for all keys and labels.
-/
import Derived.Test.YtanpbceppjpblabDoorK5
namespace Go.Proofs.YtanpbceppjpblabDoor
set_option linter.unusedVariables false
open Go.RowKit Plain

set_option maxRecDepth 20000 in
set_option maxHeartbeats 400000 in
theorem derive_no (a : Option Addr) (len cap : Nat) (S : ByteArray) (w : World) (hl : len ≤ maxLen) (hs : S.size ≤ maxLen) (h : len ≠ 32 ∨ S.size = 0 ∨ 64 < S.size) :
    Calls Tryd.prog 10 #[.slice a len cap, .string S] w fun e w' => e = .returned (.tuple #[.agg (fil8 [] 32), .int .i64 1]) ∧ Below w.heap.size w w' := by
  unfold maxLen at hl hs
  have HZ : Hid _ := z32
  have HB : Hid (Below w.heap.size w (w.alloc (.cells (fil8 [] 32) 25))) := (Below.refl _ _).alloc (Nat.le_refl _) _
  have HR : Hid ((w.alloc (.cells (fil8 [] 32) 25)).heap[w.heap.size]? = some (.cells (fil8 [] 32) 25 (0, 0))) := al_at rfl
  rw [HZ.out] at HB HR
  by_cases c1 : len = 32
  · subst c1
    by_cases c2 : S.size = 0
    · have hS0 : S = { data := #[] } := str_empty c2
      subst hS0
      clear h hs c2
      go_enter Tryd.func10, Tryd.ntmps10
      go_wp2_with (first | (refine wpList_build25 rfl rfl ?_) | (refine wpList_store_row rfl 25 _ _ rfl w.heap.size (fil8 [] 32) rfl rfl 25 _ HR.out (by kernel_rfl) (by rfl) all_fil8 ?_))
      (try simp only [Exit.inBlock, Exit.then])
      refine bodyPost_ret (results_row_tmp (p := 4) (q := 5) (ty := 25) rfl _ _ w.heap.size 25 (fil8 [] 32) (0, 0) _ rfl (setRow_heap _ _ _ _ _ _ HR.out) Tryd.underlying25 rfl (by kernel_rfl)) rfl ?_
      exact ⟨rfl, below_setRow HB.out (Nat.le_refl _) _⟩
    · have c3 : 64 < (S.size : Int) := by omega
      have c4 : decide ((S.size : Int) < 1) = false := by simp; omega
      have c4'' : ¬ (S.size : Int) < 1 := by omega
      have c5 := str_ne c2
      have c6 := str_ne2 c2
      have c7 : ¬ S.toList = [] := by rw [← List.isEmpty_iff, c6]; decide
      clear h
      go_enter Tryd.func10, Tryd.ntmps10
      go_wp2_with (first | (refine wpList_build25 rfl rfl ?_) | (refine wpList_store_row rfl 25 _ _ rfl w.heap.size (fil8 [] 32) rfl rfl 25 _ HR.out (by kernel_rfl) (by rfl) all_fil8 ?_))
      (try simp only [Exit.inBlock, Exit.then])
      refine bodyPost_ret (results_row_tmp (p := 4) (q := 5) (ty := 25) rfl _ _ w.heap.size 25 (fil8 [] 32) (0, 0) _ rfl (setRow_heap _ _ _ _ _ _ HR.out) Tryd.underlying25 rfl (by kernel_rfl)) rfl ?_
      exact ⟨rfl, below_setRow HB.out (Nat.le_refl _) _⟩
  · have c2 : ¬ (len : Int) = 32 := by omega
    have c3 : (len == 32) = false := by simpa using c1
    clear h
    go_enter Tryd.func10, Tryd.ntmps10
    go_wp2_with (first | (refine wpList_build25 rfl rfl ?_) | (refine wpList_store_row rfl 25 _ _ rfl w.heap.size (fil8 [] 32) rfl rfl 25 _ HR.out (by kernel_rfl) (by rfl) all_fil8 ?_))
    (try simp only [Exit.inBlock, Exit.then])
    refine bodyPost_ret (results_row_tmp (p := 4) (q := 5) (ty := 25) rfl _ _ w.heap.size 25 (fil8 [] 32) (0, 0) _ rfl (setRow_heap _ _ _ _ _ _ HR.out) Tryd.underlying25 rfl (by kernel_rfl)) rfl ?_
    exact ⟨rfl, below_setRow HB.out (Nat.le_refl _) _⟩

set_option maxRecDepth 20000 in
set_option maxHeartbeats 400000 in
theorem derive_ok (a : Option Addr) (cap : Nat) (K : List Int) (S : ByteArray) (w : World) (hT : Tabs w) (hp : (⟨a, 32, cap, K⟩ : Pc).ok w) (h1 : 1 ≤ S.size) (h64 : S.size ≤ 64) :
    Calls Tryd.prog 10 #[.slice a 32 cap, .string S] w fun e w' => e = .returned (.tuple #[.agg (u8s (mac K (nums S ++ [1]))), .int .i64 0]) ∧ Below w.heap.size w w' := by
  obtain ⟨X, HX⟩ : ∃ X, Box (mac K (nums S ++ [1]) = X) := named _
  have hXl : (u8s X).size = 32 := by rw [← HX.out, size_u8s, length_mac]
  have HC : Box (∀ x a' c', Below w.heap.size w x → (⟨some a', S.size + 1, c', nums S ++ [1]⟩ : Pc).ok x → Calls Tryd.prog 8 #[.slice a 32 cap, .slice (some a') (S.size + 1) c'] x fun e w' => e = .returned (.agg (u8s X)) ∧ Below x.heap.size x w') := ⟨fun x a' c' hx hy => by rw [← HX.out]; exact mac_any a (some a') 32 cap (S.size + 1) c' K (nums S ++ [1]) x (hT.below hx) (hp.below hx) hy (by omega) (by omega)⟩
  have HW : Box (Below w.heap.size w (w.alloc (.cells (fil8 [] 32) 25)) ∧ (w.alloc (.cells (fil8 [] 32) 25)).heap[w.heap.size]? = some (.cells (fil8 [] 32) 25 (0, 0))) := ⟨(Below.refl _ _).alloc (Nat.le_refl _) _, al_at rfl⟩
  have HZ : Hid _ := z32
  rw [HZ.out] at HW
  have hcv2 := fun w s => run_bytes_of_string (P := Tryd.prog) w 9 22 5 s Tryd.underlying9 Tryd.underlying22 Tryd.underlying5
  have d1 : ¬ (S.size : Int) < 1 := by omega
  have d2 : ¬ 64 < (S.size : Int) := by omega
  have d1' : decide ((S.size : Int) < 1) = false := by simp; omega
  have d3 := str_ne (show ¬ S.size = 0 by omega)
  have d4 := str_ne2 (show ¬ S.size = 0 by omega)
  have d5 : ¬ S.toList = [] := by rw [← List.isEmpty_iff, d4]; decide
  clear hp hT
  go_enter Tryd.func10, Tryd.ntmps10
  go_wp2_with (first
    | (at_builtin; refine wpList_applbl rfl (.tmp 22) (.tmp 23) rfl S 1 (by omega) (by omega) _ _ rfl rfl ?e1 ?e2 ?hv ?_; (case hv => rfl); (case e1 => simp); (case e2 => simp); intro a' c' w3 H3; have H4 : Box (Below w.heap.size w w3 ∧ w3.heap[w.heap.size]? = some (.cells (fil8 [] 32) 25 (0, 0))) := ⟨HW.out.1.trans (H3.out.2.mono HW.out.1.size), (H3.out.2.block _ (by simp)).trans HW.out.2⟩)
    | (go_at_call 8; refine Calls.mono (HC.out w3 a' c' H4.out.1 H3.out.1) ?_; rintro e w5 ⟨rfl, hb5⟩; have H5 : Box (Below w.heap.size w w5 ∧ w5.heap[w.heap.size]? = some (.cells (fil8 [] 32) 25 (0, 0))) := ⟨below_to H4.out.1 hb5, (hb5.block _ (Array.getElem?_eq_some_iff.1 H4.out.2).1).trans H4.out.2⟩; clear hb5)
    | (refine wpList_store_row rfl 25 (.tmp 4) (.tmp 25) rfl w.heap.size (u8s X) rfl rfl 25 (fil8 [] 32) H5.out.2 (by rw [hXl]; kernel_rfl) (by rw [hXl]; rfl) (all_u8s X) ?_))
  (try simp only [Exit.inBlock, Exit.then])
  refine bodyPost_ret (results_row_tmp (p := 4) (q := 5) (ty := 25) rfl _ _ w.heap.size 25 (u8s X) (0, 0) _ rfl (setRow_heap _ _ _ _ _ _ H5.out.2) Tryd.underlying25 rfl (by rw [hXl]; kernel_rfl)) rfl ?_
  exact ⟨by rw [HX.out]; rfl, below_setRow H5.out.1 (Nat.le_refl _) _⟩
theorem derive_any (a : Option Addr) (len cap : Nat) (K : List Int) (S : ByteArray) (w : World) (hT : Tabs w) (hp : (⟨a, len, cap, K⟩ : Pc).ok w) (hl : len ≤ maxLen) (hs : S.size ≤ maxLen) :
    Calls Tryd.prog 10 #[.slice a len cap, .string S] w fun e w' => e = .returned (.tuple #[.agg (u8s (derS K S)), .int .i64 (derE K S)]) ∧ Below w.heap.size w w' := by
  have hKl : K.length = len := hp.1.1
  by_cases h : K.length = 32 ∧ 1 ≤ S.size ∧ S.size ≤ 64
  · rw [derS, derE, if_pos h, if_pos h]
    obtain ⟨h0, h1, h2⟩ := h
    rw [hKl] at h0
    subst h0
    exact derive_ok a cap K S w hT hp h1 h2
  · rw [derS, derE, if_neg h, if_neg h]
    exact derive_no a len cap S w hl hs (by omega)
end Go.Proofs.YtanpbceppjpblabDoor
