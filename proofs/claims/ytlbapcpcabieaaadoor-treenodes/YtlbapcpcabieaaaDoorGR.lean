/-
  What the reference's Put of layer 10 answers, for every node; and the law's own function refs.
-/
import Derived.Test.YtlbapcpcabieaaaDoorG7
namespace Go.Proofs.YtlbapcpcabieaaaDoor
set_option linter.unusedVariables false
open Go.RowKit Plain

theorem rt35 : RfT 35 := ⟨by kernel_rfl, by kernel_rfl, by kernel_rfl, by kernel_rfl, fun w => by kernel_rfl, fun w => by kernel_rfl, by kernel_rfl⟩
theorem infoM : (Tryd.prog.info? 36).map (·.size) = some 132 := by kernel_rfl
theorem zeroM : (Tryd.prog.info? 36).map (·.zero) = some (some (.agg (na zn))) := by kernel_rfl
theorem guardM : Tryd.prog.eqGuardType Tryd.prog.depth 36 = false := by kernel_rfl
theorem builtQ (parts : List (Nat × Value)) : Tryd.prog.built 35 parts = Instr.fill (fun i => #[(0, 32), (32, 1)][i]?) (ra zr) parts := by kernel_rfl
theorem built_Q (D : List Int) (s : Int) (hD : D.length = 32) : Tryd.prog.built 35 [(0, .agg (u8s D)), (1, .int .u64 s)] = some (ra ⟨D, s⟩) := by
  rw [builtQ, fill_step _ _ 0 0 32 _ _ rfl (by rw [size_u8s, hD]) (by rw [size_ra okR_zr]; omega), splice_r D hD, fill_one _ _ 1 32 .u64 s _ rfl (by simp [rc, hD]), Instr.fill, set_r D s hD]
theorem rput8 (x : Int) (w : World) (hx : N64 x) :
    Calls Tryd.prog 24 #[.int .u64 x, .int .i64 8] w fun e w' => ∃ a' cap', e = .returned (.slice a' 8 cap') ∧ Bytes w' a' 8 (bytesOf x 8) ∧ Below w.heap.size w w' :=
  (rput_any x 8 8 w ⟨hx.1, hx.2⟩ rfl (by omega)).mono fun e w' ⟨a', cap', he, ho⟩ => ⟨a', cap', he, ho.bytes (bytesOf_bd _ 8), ho.2.2⟩
theorem take_snoc (L : List Int) (k : Nat) (h : k < L.length) : L.take (k + 1) = L.take k ++ [L.getD k 0] := by
  rw [List.take_add_one]
  simp [h]
theorem Pu.one {w1 wr : World} {B n : Nat} {v : Value} {A : List Int} (h : Pu w1 wr B v n A) (z : Int) (hz : 0 ≤ z ∧ z ≤ 255) : Pu w1 (wr.alloc (.cells #[.int .u8 z] 5)) B v n A ∧ Bytes (wr.alloc (.cells #[.int .u8 z] 5)) (some ⟨wr.heap.size, 0, none⟩) 1 [z] :=
  ⟨h.below ((Below.refl _ _).alloc (Nat.le_refl _) _), bytes_of_row (X := [z]) (t := 5) (fr := (0, 0)) (byt_one z hz) (al_at rfl)⟩

set_option maxRecDepth 20000 in
set_option maxHeartbeats 1000000 in
theorem rnput_any (N : List Rf) (w : World) (hN : OkN N) (h4 : N.length = 4) : Calls Tryd.prog 12 #[.agg (na N)] w fun e w' => ∃ a cap, e = .returned (.slice a 160 cap) ∧ Bytes w' a 160 (nb N) ∧ Below w.heap.size w w' := by
  obtain ⟨S, hS⟩ : ∃ S, w.heap.size = S := ⟨_, rfl⟩
  have HS : Box (w.heap.size = S) := ⟨hS⟩
  have HN : Box (OkN N ∧ N.length = 4) := ⟨hN, h4⟩
  have HX : Box (∀ k : Nat, k < 4 → OkR (N.getD k zr) ∧ nb (N.take (k + 1)) = nb (N.take k) ++ (N.getD k zr).d ++ bytesOf (N.getD k zr).s 8 ∧ ∀ x, LiesN x S 36 N → (∀ i, i < 32 → x.cell? ⟨S, k * 33 + i, none⟩ = some (.int .u8 ((N.getD k zr).d.getD i 0))) ∧ x.cell? ⟨S, k * 33 + 32, none⟩ = some (.int .u64 (N.getD k zr).s)) := ⟨fun k hk => by
    have hk' : k < N.length := by omega
    rw [getD_is k hk']
    exact ⟨hN.get k hk', nb_snoc k hk', fun x hx => ⟨fun i hi => by rw [hx.cell, Nat.mul_comm]; exact nc_sum hN k hk' i hi, hx.stamp hN k hk'⟩⟩⟩
  have H1 : Box (LiesN (w.alloc (.cells (na N) 36)) S 36 N ∧ Pu (w.alloc (.cells (na N) 36)) (w.alloc (.cells (na N) 36)) (S + 1) (.slice none 0 0) 0 [] ∧ Below S w (w.alloc (.cells (na N) 36))) := ⟨al_at hS, ⟨World.ownsRow_nil _ _ _ _, Below.refl _ _, by simp [hS]⟩, (Below.refl _ _).alloc (by omega) _⟩
  clear hS hN h4
  go_enter Tryd.func12, Tryd.ntmps12
  go_upto_region 1 with fail
  rw [HS.out]
  generalize w.alloc (.cells (na N) 36) = w1 at H1 ⊢
  have HB : Box (Below S w w1 ∧ ∀ x, Below (S + 1) w1 x → LiesN x S 36 N) := ⟨H1.out.2.2, fun x hx => H1.out.1.on hx (by omega)⟩
  go_wp2
  go_loopw [3, 4] (fun v i wr => ∃ k : Nat, k ≤ 4 ∧ i = .int .i64 k ∧ Box (Pu w1 wr (S + 1) v (k * 40) (nb (N.take k)))) (fun _ i _ => 4 - (intOf i).toNat)
  case atStart => exact ⟨0, by omega, rfl, ⟨H1.out.2.1⟩⟩
  case round =>
    obtain ⟨k, hk, rfl, HP⟩ := hrel
    clear H1
    by_cases hlt : k < 4
    · obtain ⟨o1, o2, o3⟩ := HX.out k hlt
      have HR : Box (OkR (N.getD k zr) ∧ nb (N.take (k + 1)) = nb (N.take k) ++ (N.getD k zr).d ++ bytesOf (N.getD k zr).s 8) := ⟨o1, o2⟩
      have HC : Box (∀ x, Below (S + 1) w1 x → (∀ i, i < 32 → x.cell? ⟨S, k * 33 + i, none⟩ = some (.int .u8 ((N.getD k zr).d.getD i 0))) ∧ x.cell? ⟨S, k * 33 + 32, none⟩ = some (.int .u64 (N.getD k zr).s)) := ⟨fun x hx => o3 x (HB.out.2 x hx)⟩
      clear o1 o2 o3
      generalize N.getD k zr = r at HR HC
      have hd : decide ((k : Int) < 4) = true := by simp; omega
      have hst := HR.out.1.hs
      obtain ⟨A, HA⟩ : ∃ A, Box (nb (N.take k) = A) := ⟨_, ⟨rfl⟩⟩
      rw [HA.out] at HP HR
      obtain ⟨n, HNn⟩ : ∃ n, Box (k * 40 = n ∧ n ≤ 160) := ⟨_, rfl, by omega⟩
      rw [HNn.out.1] at HP
      go_wp2
      (try rw [hd])
      go_loopw [3, 5] (fun v i wr => ∃ j : Nat, j ≤ 32 ∧ i = .int .i64 j ∧ Box (Pu w1 wr (S + 1) v (n + j) (A ++ r.d.take j))) (fun _ i _ => 32 - (intOf i).toNat)
      case atStart => exact ⟨0, by omega, rfl, ⟨by simpa using HP.out⟩⟩
      case round =>
        obtain ⟨j, hj, rfl, HQ⟩ := hrel
        by_cases hjt : j < 32
        · have hc : wr.cell? ⟨S, k * 33 + j, none⟩ = some (.int .u8 (r.d.getD j 0)) := (HC.out wr HQ.out.2.1).1 j hjt
          have HT : Box (A ++ r.d.take (j + 1) = A ++ r.d.take j ++ [r.d.getD j 0]) := ⟨by rw [take_snoc _ _ (by rw [HR.out.1.ld]; exact hjt), List.append_assoc]⟩
          have HO : Box (Pu w1 (wr.alloc (.cells #[.int .u8 (r.d.getD j 0)] 5)) (S + 1) u3 (n + j) (A ++ r.d.take j) ∧ Bytes (wr.alloc (.cells #[.int .u8 (r.d.getD j 0)] 5)) (some ⟨wr.heap.size, 0, none⟩) 1 [r.d.getD j 0]) := ⟨HQ.out.one _ (HR.out.1.bd j)⟩
          have HL : Box (n + j + 1 ≤ 140737488355328) := ⟨by have := HNn.out; omega⟩
          generalize r.d.getD j 0 = z at hc HT HO
          clear HQ
          go_wp2_with (at_builtin; refine wpList_app rfl (.tmp 14) (.tmp 21) rfl (S + 1) (n + j) 1 1 _ (A ++ r.d.take j) [z] _ (wr.alloc (.cells #[.int .u8 z] 5)) rfl rfl HO.out.1.1 HO.out.2 HL.out (Below.refl _ _) HO.out.1.2.2 ?_; intro v6 w6 h6; have H6 : Box (Pu w1 w6 (S + 1) v6 (n + j + 1) (A ++ r.d.take j ++ [z])) := ⟨HO.out.1.app h6⟩; clear h6 HO)
          go_roundw
          case rel => exact ⟨j + 1, by omega, by go_num, ⟨by rw [HT.out]; exact H6.out⟩⟩
          case measure => simp [intOf]; omega
        · have HJ : Box (j = 32) := ⟨by omega⟩
          have hd2 : decide ((j : Int) < 32) = false := by simp; omega
          have HQ' : Box (Pu w1 wr (S + 1) u3 (n + 32) (A ++ r.d)) := ⟨by
            have := HQ.out
            rw [HJ.out, List.take_of_length_le (by rw [HR.out.1.ld]; exact Nat.le_refl _)] at this
            exact this⟩
          have hc : wr.cell? ⟨S, k * 33 + 32, none⟩ = some (.int .u64 r.s) := (HC.out wr HQ'.out.2.1).2
          obtain ⟨a5, c5, rfl⟩ := own_form HQ'.out.1
          clear hjt hj HQ
          have HL : Box (n + 32 + 8 ≤ 140737488355328) := ⟨by have := HNn.out; omega⟩
          generalize r.s = z at hc hst HR
          go_wp2_with (first
            | (go_at_call 24; refine Calls.mono (rput8 z _ hst) ?_; rintro e x0 ⟨ga0, gc0, rfl, hB, hb⟩; have X0 : Box (Pu w1 x0 (S + 1) (.slice a5 (n + 32) c5) (n + 32) (A ++ r.d) ∧ Bytes x0 ga0 8 (bytesOf z 8)) := ⟨HQ'.out.below hb, hB⟩; clear hB hb hc)
            | (at_builtin; refine wpList_app rfl (.tmp 23) (.tmp 28) rfl (S + 1) (n + 32) 8 _ _ (A ++ r.d) (bytesOf z 8) _ x0 rfl rfl X0.out.1.1 X0.out.2 HL.out (Below.refl _ _) X0.out.1.2.2 ?_; intro v0 y0 h6; have Y0 : Box (Pu w1 y0 (S + 1) v0 (n + 32 + 8) (A ++ r.d ++ bytesOf z 8)) := ⟨X0.out.1.app h6⟩; clear h6 X0))
          go_roundw
          case rel => exact ⟨k + 1, by omega, by go_num, ⟨by rw [HR.out.2, show (k + 1) * 40 = n + 32 + 8 by have := HNn.out; omega]; exact Y0.out⟩⟩
          case measure => simp [intOf]; omega
    · obtain rfl : k = 4 := by omega
      have e4 : N.take 4 = N := List.take_of_length_le (by rw [HN.out.2]; exact Nat.le_refl _)
      rw [e4] at HP
      obtain ⟨a5, c5, rfl⟩ := own_form HP.out.1
      go_wp2
      go_ret
      refine ⟨a5, c5, rfl, own_bytes HP.out.1 (byt_nb HN.out.1), ?_⟩
      rw [HS.out]
      exact HB.out.1.trans (HP.out.2.1.mono (by omega))
end Go.Proofs.YtlbapcpcabieaaaDoor
