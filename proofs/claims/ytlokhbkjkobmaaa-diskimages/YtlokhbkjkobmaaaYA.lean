/-
  What the Go method Restore of package disk does, with an image of a disk, or with too few rows.
-/
import Derived.Test.YtlokhbkjkobmaaaZV
import Derived.Test.YtlokhbkjkobmaaaZX
namespace Go.Proofs.Ytlokhbkjkobmaaa
set_option linter.unusedVariables false
open Go.RowKit Plain

/-- The first places as an image has them. -/
def rpl (pl0 : Nat → List Int) (k : Nat) (pl : Nat → List Int) : Nat → List Int := fun i => if i < k then pl0 i else pl i
theorem rpl_zero (pl0 pl : Nat → List Int) : rpl pl0 0 pl = pl := by
  funext i
  simp [rpl]
theorem rpl_succ (pl0 pl : Nat → List Int) (k : Nat) : upd (rpl pl0 k pl) k (pl0 k) = rpl pl0 (k + 1) pl := by
  funext i
  simp only [upd, rpl]
  by_cases h : i = k
  · subst h
    simp
  · by_cases h2 : i < k
    · simp [h, h2, show i < k + 1 by omega]
    · simp [h, h2, show ¬ i < k + 1 by omega]
structure Tq (wd : World) (D P n i : Nat) (B : List Int) (bb off : Nat) : Prop where
  c0 : wd.cell? ⟨D, 0, none⟩ = some (.slice (some ⟨P, 0, none⟩) n n)
  n0 : D ≠ P
  rb : wd.rangeAt bb off (B.map (Value.int .u8))
  nb : bb ≠ P
  iz : (Try.prog.info? 79).map (·.size) = some (B.map (Value.int .u8)).length
  iy : (Try.prog.info? 79).map (·.size) = some (u8s B).size
  th : wd.there P (i * 192) (u8s B).size
theorem Tq.drew {w wd : World} {D P n i : Nat} {B : List Int} {bb off : Nat} (h : Tq w D P n i B bb off) (hwd : wd = w.drew) : Tq wd D P n i B bb off := by
  subst hwd
  exact ⟨h.c0, h.n0, h.rb, h.nb, h.iz, h.iy, h.th⟩
theorem At.types {w : World} {D P : Nat} {uv ov : Value} {d : Dk} (h1 : At w D P uv ov d) : ∀ (k : Nat) (cs : Array Value) (t : TypeId) (fr : Nat × Nat), w.heap[k]? = some (.cells cs t fr) → ¬ Own4 t → ¬ foot D P uv ov k := by
  intro k cs t fr hk ht hf
  apply ht
  rcases hf with rfl | rfl | hf | hf
  · rw [h1.hd] at hk
    simp only [Option.some.injEq, Obj.cells.injEq] at hk
    exact .inl hk.2.1.symm
  · obtain ⟨c, h3, _⟩ := h1.hp
    rw [h3] at hk
    simp only [Option.some.injEq, Obj.cells.injEq] at hk
    exact .inr (.inl hk.2.1.symm)
  · rcases h1.hu.2 with ⟨e, _⟩ | ⟨g, cap, cur, e, _, hg, _⟩
    · rw [e] at hf; simp [Value.ownBlock] at hf
    · rw [e] at hf
      simp only [Value.ownBlock, Option.some.injEq] at hf
      subst hf
      rw [hg] at hk
      simp only [Option.some.injEq, Obj.cells.injEq] at hk
      exact .inr (.inr (.inl hk.2.1.symm))
  · rcases h1.ho.2 with ⟨e, _⟩ | ⟨g, cap, cur, e, _, hg, _⟩
    · rw [e] at hf; simp [Value.ownBlock] at hf
    · rw [e] at hf
      simp only [Value.ownBlock, Option.some.injEq] at hf
      subst hf
      rw [hg] at hk
      simp only [Option.some.injEq, Obj.cells.injEq] at hk
      exact .inr (.inr (.inr hk.2.1.symm))
/-- Rows of an image in memory. -/
structure Im (w : World) (g n : Nat) (Ls : List Value) (pl0 : Nat → List Int) : Prop where
  row : w.heap[g]? = some (.cells Ls.toArray 36 (0, 0))
  len : Ls.length = n
  each : ∀ i (h : i < Ls.length), w.ownsRow 0 5 1 Ls[i] 192 ((pl0 i).map (Value.int .u8))
  byt : ∀ i, (pl0 i).length = 192 ∧ Byt (pl0 i)
theorem Im.fr {w w' : World} {g n : Nat} {Ls : List Value} {pl0 : Nat → List Int} (h : Im w g n Ls pl0) (f : Fr w w') : Im w' g n Ls pl0 :=
  ⟨(f.2 _ _ _ _ h.row (by unfold Own4; decide)).trans h.row, h.len, fun i hi => f.own (h.each i hi) (by unfold Own4; decide), h.byt⟩
theorem fr_turned {w w' : World} {D P : Nat} {uv ov : Value} {d : Dk} (h1 : At w D P uv ov d) (t : Turned (foot D P uv ov) w w') : Fr w w' :=
  ⟨t.size, fun k cs ty fr hk ht => t.block k (Array.getElem?_eq_some_iff.1 hk).1 (h1.types k cs ty fr hk ht)⟩
theorem Im.at_ {w : World} {g n : Nat} {Ls : List Value} {pl0 : Nat → List Int} (h : Im w g n Ls pl0) (k : Nat) (hk : k < n) : ∃ bb off ck, w.cell? ⟨g, k, none⟩ = some (.slice (some ⟨bb, off, none⟩) 192 ck) ∧ w.rangeAt bb off ((pl0 k).map (Value.int .u8)) ∧ ∃ cs fr, w.heap[bb]? = some (.cells cs 5 fr) := by
  have hLs : k < Ls.length := by rw [h.len]; exact hk
  have ho := h.each k hLs
  rcases ho.2 with ⟨_, e⟩ | ⟨gg, cap, cur, e, _, hg, _⟩
  · omega
  · refine ⟨gg, 0, cap, ?_, fun j v hv => ?_, cur, _, hg⟩
    · rw [cell_of_row _ _ _ _ _ _ h.row, ← e]
      simp [hLs]
    · have := World.ownsRow.cells ho (g := gg) (by rw [e]; rfl) j v hv
      rw [Addr.add_lit] at this
      exact this
set_option maxHeartbeats 2000000 in
theorem restore_few (w : World) (D P : Nat) (uv ov : Value) (d : Dk) (h : At w D P uv ov d) (a : Option Addr) (len cap : Nat) (hl : len ≠ d.n) (hl9 : len ≤ 1000000) :
    Calls Try.prog 16 #[.pointer (some ⟨D, 0, none⟩), .slice a len cap] w fun e w' => e = .returned (.int .i64 1) ∧ w = w' := by
  obtain ⟨c0, -, -, -, -, -, -⟩ := h.cells
  have hne : ((len : Int) == (d.n : Int)) = false := by
    have : ¬ ((len : Int) = (d.n : Int)) := by omega
    simp [this]
  clear h hl
  go_enter Try.func16, Try.ntmps16
  go_wp2
  go_ret
  exact ⟨rfl, rfl⟩
set_option maxRecDepth 20000 in
set_option maxHeartbeats 4000000 in
theorem restore_ok (w : World) (D P : Nat) (uv ov : Value) (d : Dk) (h1 : At w D P uv ov d) (g c : Nat) (Ls : List Value) (pl0 : Nat → List Int) (hI : Im w g d.n Ls pl0) :
    Calls Try.prog 16 #[.pointer (some ⟨D, 0, none⟩), .slice (some ⟨g, 0, none⟩) d.n c] w fun e w' => e = .returned (.int .i64 0) ∧ At w' D P (.slice none 0 0) ov { d with pl := rpl pl0 d.n d.pl, uw := [] } ∧ Turned (foot D P uv ov) w w' := by
  obtain ⟨c0, c1, -, -, -, -, fz⟩ := h1.cells
  have hn := h1.hn
  have hn9 : d.n < 9223372036854775807 := by omega
  have HI : Box (∀ x, Turned (foot D P uv ov) w x → Im x g d.n Ls pl0) := ⟨fun x t => hI.fr (fr_turned h1 t)⟩
  have HTy : Box (∀ (k : Nat) (cs : Array Value) (fr : Nat × Nat), w.heap[k]? = some (.cells cs 5 fr) → ¬ foot D P uv ov k) := ⟨fun k cs fr hk => h1.types k cs 5 fr hk (by unfold Own4; decide)⟩
  have HA : Box (At w D P uv ov { d with pl := rpl pl0 0 d.pl } ∧ Turned (foot D P uv ov) w w) := ⟨by rw [rpl_zero]; exact h1, Turned.refl _ _⟩
  clear h1 hI hn fz
  go_enter Try.func16, Try.ntmps16
  go_wp2
  go_loopw [23] (fun j wr => ∃ k : Nat, k ≤ d.n ∧ j = .int .i64 k ∧ Box (wr = w)) (fun j _ => d.n - (intOf j).toNat)
  case atStart => exact ⟨0, Nat.zero_le _, rfl, ⟨rfl⟩⟩
  case round =>
    obtain ⟨k, hk, rfl, HW⟩ := hrel
    have e0 := HW.out.symm
    subst e0
    by_cases hlt : k < d.n
    · obtain ⟨bb, off, ck, q1, _, _⟩ := (HI.out _ (Turned.refl _ _)).at_ k hlt
      go_wp2
      exact ⟨⟨k + 1, by omega, by simp, ⟨trivial⟩⟩, by simp [intOf]; omega⟩
    · obtain rfl : k = d.n := by omega
      go_wp2
      clear c0 c1
      go_loopw [33] (fun j wx => ∃ k : Nat, k ≤ d.n ∧ j = .int .i64 k ∧ Box (At wx D P uv ov { d with pl := rpl pl0 k d.pl } ∧ Turned (foot D P uv ov) w wx)) (fun j _ => d.n - (intOf j).toNat)
      case atStart => exact ⟨0, Nat.zero_le _, rfl, HA⟩
      case round =>
        obtain ⟨k, hk2, rfl, HK⟩ := hrel
        clear HA hk
        by_cases hlt : k < d.n
        · have hIx := HI.out _ HK.out.2
          obtain ⟨bb, off, ck, q1, hrb, cs5, fr5, hb5⟩ := hIx.at_ k hlt
          have hnf : ¬ foot D P uv ov bb := At.types HK.out.1 bb cs5 5 fr5 hb5 (by unfold Own4; decide)
          obtain ⟨cs, hP, hPs⟩ := HK.out.1.hp
          have hfit : k * 192 + 192 ≤ cs.size := by
            rw [hPs.1, Nat.mul_comm, ← Nat.mul_succ]
            exact Nat.mul_le_mul_left _ hlt
          have HTp : Box (Tq wr D P d.n k (pl0 k) bb off) := ⟨⟨HK.out.1.cells.1, HK.out.1.neP, hrb, fun e => hnf (.inr (.inl e)), by rw [List.length_map, (hIx.byt k).1]; exact info79, by rw [size_u8s, (hIx.byt k).1]; exact info79, there_row hP (by rw [size_u8s, (hIx.byt k).1]; exact hfit)⟩⟩
          have HLd : Box _ := ⟨HK.out.1.laid ((Below.refl _ wr).drew) k (pl0 k) hlt (hIx.byt k)⟩
          have HTn : Box (Turned (foot D P uv ov) w wr) := ⟨HK.out.2⟩
          have HE : Box (({ ({ d with pl := rpl pl0 k d.pl } : Dk) with pl := upd (rpl pl0 k d.pl) k (pl0 k) } : Dk) = { d with pl := rpl pl0 (k + 1) d.pl }) := ⟨by rw [rpl_succ]⟩
          clear HK hIx hrb hb5 hnf hP hPs hfit
          go_upto_region 12 with fail
          rename_i KK ax
          try simp only [Act.put, List.setIfInBounds_toArray, List.set_cons_zero, List.set_cons_succ, List.getElem_toArray, List.getElem_cons_zero, List.getElem_cons_succ]
          refine begin_but (P) (by kernel_rfl) (fun wd hwd => ?_)
          have GF : Box (Tq wd D P d.n k (pl0 k) bb off) := ⟨HTp.out.drew hwd⟩
          have hin : k < d.n := hlt
          refine take_but (i := 0) (v := ?_) rfl (by kernel_rfl) (by kernel_rfl) (by kernel_rfl) (fun _ _ _ h => h) (by rfl) ?_ ?_
          rotate_left
          · intro w' hB; clear hB; go_simp <;> with_reducible rfl
          try simp only [Act.put, List.setIfInBounds_toArray, List.set_cons_zero, List.set_cons_succ, List.getElem_toArray, List.getElem_cons_zero]
          refine take_but (i := 1) (v := ?_) rfl (by kernel_rfl) (by kernel_rfl) (by kernel_rfl) (fun _ _ _ h => h) (by rfl) ?_ ?_
          rotate_left
          · intro w' hB; clear hB; go_simp <;> with_reducible rfl
          try simp only [Act.put, List.setIfInBounds_toArray, List.set_cons_zero, List.set_cons_succ, List.getElem_toArray, List.getElem_cons_zero, List.getElem_cons_succ]
          refine take_but (i := 2) (v := ?_) rfl (by kernel_rfl) (by kernel_rfl) (by kernel_rfl) (fun _ _ _ h => h) (by rfl) ?_ ?_
          rotate_left
          · intro w' hB; clear hB; go_simp <;> with_reducible rfl
          try simp only [Act.put, List.setIfInBounds_toArray, List.set_cons_zero, List.set_cons_succ, List.getElem_toArray, List.getElem_cons_zero, List.getElem_cons_succ]
          refine take_but (i := 3) (v := .slice (some ⟨P, 0, none⟩) d.n d.n) rfl (by kernel_rfl) (by kernel_rfl) (by kernel_rfl) (fun _ _ _ h => h) (by rfl) (fun w' hB => exec_load1 64 _ _ rfl Try.underlying64 rfl _ rfl _ (but_cell hB GF.out.c0 GF.out.n0)) ?_
          try simp only [Act.put, List.setIfInBounds_toArray, List.set_cons_zero, List.set_cons_succ, List.getElem_toArray, List.getElem_cons_zero, List.getElem_cons_succ]
          refine take_but (i := 4) (v := ?_) rfl (by kernel_rfl) (by kernel_rfl) (by kernel_rfl) (fun _ _ _ h => h) (by rfl) ?_ ?_
          rotate_left
          · intro w' hB; clear hB; go_simp <;> with_reducible rfl
          try simp only [Act.put, List.setIfInBounds_toArray, List.set_cons_zero, List.set_cons_succ, List.getElem_toArray, List.getElem_cons_zero, List.getElem_cons_succ]
          refine take_but (i := 5) (v := ?_) rfl (by kernel_rfl) (by kernel_rfl) (by kernel_rfl) (fun _ _ _ h => h) (by rfl) ?_ ?_
          rotate_left
          · intro w' hB; clear hB; go_simp <;> with_reducible rfl
          try simp only [Act.put, List.setIfInBounds_toArray, List.set_cons_zero, List.set_cons_succ, List.getElem_toArray, List.getElem_cons_zero, List.getElem_cons_succ]
          refine take_but (i := 6) (v := .pointer (some ⟨bb, off, none⟩)) rfl (by kernel_rfl) (by kernel_rfl) (by kernel_rfl) (fun _ _ _ h => h) (by rfl) (fun w' hB => exec_s2a w' _ rfl _ 192 ck rfl (Nat.le_refl _)) ?_
          try simp only [Act.put, List.setIfInBounds_toArray, List.set_cons_zero, List.set_cons_succ, List.getElem_toArray, List.getElem_cons_zero, List.getElem_cons_succ]
          refine take_but (i := 7) (v := .agg (u8s (pl0 k))) rfl (by kernel_rfl) (by kernel_rfl) (by kernel_rfl) (fun _ _ _ h => h) (by rfl) (fun w' hB => exec_load_mid 79 _ _ rfl Try.underlying79 rfl bb off rfl ((pl0 k).map (Value.int .u8)) GF.out.iz (but_range hB GF.out.rb GF.out.nb)) ?_
          try simp only [Act.put, List.setIfInBounds_toArray, List.set_cons_zero, List.set_cons_succ, List.getElem_toArray, List.getElem_cons_zero, List.getElem_cons_succ]
          refine take_but (i := 8) (v := ?_) rfl (by kernel_rfl) (by kernel_rfl) (by kernel_rfl) (fun _ _ _ h => h) (by rfl) ?_ ?_
          rotate_left
          · intro w' hB; clear hB; go_simp <;> with_reducible rfl
          try simp only [Act.put, List.setIfInBounds_toArray, List.set_cons_zero, List.set_cons_succ, List.getElem_toArray, List.getElem_cons_zero, List.getElem_cons_succ]
          refine last_but (i := 9) rfl (by kernel_rfl) (by rfl) (by kernel_rfl) 79 _ _ rfl (k * 192) (u8s (pl0 k)) rfl rfl GF.out.th GF.out.iy (all_u8s _) ?_
          show KK _ _
          refine ax _ _ ?_
          try simp only [Act.put, List.getElem_toArray, List.getElem_cons_zero, List.getElem_cons_succ]
          have HL2 : Box _ := ⟨HLd.out⟩
          rw [HE.out] at HL2
          rw [hwd]
          generalize wr.drew.setCells P (k * 192) (u8s (pl0 k)).toList = wy at HL2 ⊢
          clear ax HLd HE HTp GF hwd q1
          go_wp2
          go_roundw
          case rel => exact ⟨k + 1, by omega, by simp, ⟨HL2.out.1, HTn.out.trans HL2.out.2 (fun _ hk => .inl hk)⟩⟩
          case measure => simp [intOf]; omega
        · obtain rfl : k = d.n := by omega
          obtain ⟨-, c1, -, -, -, -, fz⟩ := HK.out.1.cells
          have f1 := fz 1
          have HW2 : Box _ := ⟨HK.out.1.noway⟩
          clear fz
          go_wp2
          go_ret
          exact ⟨rfl, HW2.out.1, HK.out.2.trans HW2.out.2.1 (fun _ hk => .inl hk)⟩
end Go.Proofs.Ytlokhbkjkobmaaa
