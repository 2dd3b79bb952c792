/-
  What the Go method Tamper of package disk does, for every disk, place and bytes.
-/
import Derived.Test.YthbbijaikcmaeaaGreatDoorT12
namespace Go.Proofs.YthbbijaikcmaeaaGreatDoor.Disk.Plain
set_option maxRecDepth 100000
end Go.Proofs.YthbbijaikcmaeaaGreatDoor.Disk.Plain
namespace Go.Proofs.YthbbijaikcmaeaaGreatDoor.Disk
set_option maxRecDepth 100000
set_option linter.unusedVariables false
set_option maxRecDepth 100000
open Go.RowKit Go.Proofs.YthbbijaikcmaeaaGreatDoor.Plain Go.Proofs.YthbbijaikcmaeaaGreatDoor.Disk.Plain
def tpOk (d : Dk) (i : Nat) (B : List Int) : Dk := { d with pl := upd d.pl i B, uw := oth i d.uw }
structure Tp (wd : World) (D P S n i : Nat) (B : List Int) (bb off : Nat) : Prop where
  c0 : wd.cell? ⟨D, 0, none⟩ = some (.slice (some ⟨P, 0, none⟩) n n)
  n0 : D ≠ P
  ci : wd.cell? ⟨S, 0, none⟩ = some (.int .i64 (i : Int))
  ni : S ≠ P
  rb : wd.rangeAt bb off (B.map (Value.int .u8))
  nb : bb ≠ P
  iz : (Tryz.prog.info? 93).map (·.size) = some (B.map (Value.int .u8)).length
  iy : (Tryz.prog.info? 93).map (·.size) = some (u8s B).size
  th : wd.there P (i * 192) (u8s B).size
theorem Tp.drew {w wd : World} {D P S n i : Nat} {B : List Int} {bb off : Nat} (h : Tp w D P S n i B bb off) (hwd : wd = w.drew) : Tp wd D P S n i B bb off := by
  subst hwd
  exact ⟨h.c0, h.n0, h.ci, h.ni, h.rb, h.nb, h.iz, h.iy, h.th⟩
theorem At.struck {w w2 : World} {D P : Nat} {uv ov v' : Value} {d : Dk} (h : At w D P uv ov d) (i : Nat) (hown : w2.ownsRow 0 95 193 v' (oth i d.uw).length (wcs (oth i d.uw))) (ht : Turned (fun k => uv.ownBlock = some k) w w2) (hv : ∀ k, v'.ownBlock = some k → uv.ownBlock = some k) :
    At (w2.setCell ⟨D, 1, none⟩ v') D P v' ov { d with uw := oth i d.uw } ∧ Turned (foot D P uv ov) w (w2.setCell ⟨D, 1, none⟩ v') ∧ (∀ k, foot D P v' ov k → foot D P uv ov k) ∧ w2.cell? ⟨D, 1, none⟩ = some uv ∧ w2.frozen? ⟨D, 1, none⟩ = false := by
  obtain ⟨cs, h1, h2⟩ := h.hp
  have hlt := h.lt
  have sm : ∀ k, k < w.heap.size → uv.ownBlock ≠ some k → w2.heap[k]? = w.heap[k]? := fun k hk hn => ht.block k hk hn
  have hD2 := sm D (hlt D (.inl rfl)) h.neU.1
  have hD : (w2.setCell ⟨D, 1, none⟩ v').heap[D]? = _ := heap_setCell_same w2 D 1 _ _ v' (hD2.trans h.hd)
  have nD : v'.ownBlock ≠ some D := fun e => h.neU.1 (hv D e)
  have nP : v'.ownBlock ≠ some P := fun e => h.neU.2 (hv P e)
  have c1 := h.cells
  refine ⟨⟨hD, ⟨cs, ?_, h2⟩, h.hpl, h.hn, own_same hown (fun k hk => heap_setCell_other w2 ⟨D, 1, none⟩ k _ (ne_blk nD hk)), fun x hx => h.huw x (List.mem_filter.1 hx).1, own_same h.ho (fun k hk => ?_), h.neP, ⟨nD, nP⟩, h.neO, ?_⟩, ?_, ?_, (World.cell?_of_block hD2).trans c1.2.1, (World.frozen?_of_block hD2).trans (c1.2.2.2.2.2.2 1)⟩
  · rw [heap_setCell_other w2 ⟨D, 1, none⟩ P _ (Ne.symm h.neP), sm P (hlt P (.inr (.inl rfl))) h.neU.2]; exact h1
  · rw [heap_setCell_other w2 ⟨D, 1, none⟩ k _ (ne_blk h.neO.1 hk)]
    refine sm k (hlt k (.inr (.inr (.inr hk)))) (fun e => ?_)
    rcases h.neUO with hn | hn
    · rw [hn] at e; cases e
    · exact hn (by rw [hk, e])
  · cases hu : v'.ownBlock with
    | none => exact .inl rfl
    | some u =>
      refine .inr (fun e => ?_)
      have h5 := hv u hu
      rcases h.neUO with hn | hn
      · rw [hn] at h5; cases h5
      · exact hn (by rw [h5, e])
  · exact ⟨ht.os, ht.tape, ht.output, by simpa using ht.size, fun k hk hn => by
      rw [heap_setCell_other w2 ⟨D, 1, none⟩ k _ (fun e => hn (.inl e))]
      exact sm k hk (fun e => hn (.inr (.inr (.inl e))))⟩
  · rintro k (rfl | rfl | hk | hk)
    · exact .inl rfl
    · exact .inr (.inl rfl)
    · exact .inr (.inr (.inl (hv k hk)))
    · exact .inr (.inr (.inr hk))
set_option maxRecDepth 20000 in
set_option maxHeartbeats 4000000 in
theorem tamper_ok (w : World) (D : Nat) (fp : Nat → Prop) (d : Dk) (h : Is w D fp d) (i : Nat) (a : Option Addr) (cap : Nat) (B : List Int) (hB : Bytes w a 192 B) (hap : ∀ ad, a = some ad → ¬ fp ad.block) (hi : i < d.n) (hu : d.uw.length < 1000000) :
    Calls Tryz.prog 17 #[.pointer (some ⟨D, 0, none⟩), .int .i64 (i : Int), .slice a 192 cap] w fun e w' => e = .returned (.int .i64 0) ∧ Nx D fp w w' (tpOk d i B) := by
  obtain ⟨P, uv, ov, h1, h2⟩ := h
  obtain ⟨S, HS⟩ : ∃ S, Box (w.heap.size = S) := ⟨_, ⟨rfl⟩⟩
  have HBl : Box (Below w.heap.size w (w.alloc (.cells #[.int .i64 (i : Int)] 3))) := ⟨(Below.refl _ _).alloc (Nat.le_refl _) _⟩
  have hA1 := h1.below HBl.out
  have H2 := fits_any _ D P uv ov d hA1 i a 192 cap
  rw [show fit d i 192 = 0 by simp [fit, hsp, hi]] at H2
  have HH : Box _ := ⟨H2⟩
  obtain ⟨bb, off, rfl, hbb, hcB⟩ := hB.2.2 (by omega)
  have hrng : w.rangeAt bb off (B.map (Value.int .u8)) := fun j v hv => by
    have hj : j < B.length := by simpa using (List.getElem?_eq_some_iff.1 hv).1
    rw [hcB j (by rw [← hB.1]; exact hj), ← hv]
    simp [hj]
  have hnf : ¬ foot D P uv ov bb := fun hf => hap _ rfl (h2 _ hf)
  obtain ⟨cs, hP, hPs⟩ := hA1.hp
  have hfit : i * 192 + 192 ≤ cs.size := by
    rw [hPs.1, Nat.mul_comm, ← Nat.mul_succ]
    exact Nat.mul_le_mul_left _ hi
  have hPl := h1.lt P (.inr (.inl rfl))
  have HTp : Box (Tp (w.alloc (.cells #[.int .i64 (i : Int)] 3)) D P S d.n i B bb off) := ⟨⟨hA1.cells.1, h1.neP, by rw [← HS.out, cell_of_row _ _ _ _ _ _ (al_at rfl)]; rfl, by have := HS.out; omega, World.rangeAt_alloc hrng _, fun e => hnf (.inr (.inl e)), by rw [List.length_map, hB.1]; exact info79, by rw [size_u8s, hB.1]; exact info79, there_row hP (by rw [size_u8s, hB.1]; exact hfit)⟩⟩
  have HF : Box (∀ k, foot D P uv ov k → fp k) := ⟨h2⟩
  have HIn : Box (i < d.n) := ⟨hi⟩
  have HA : Box (At w D P uv ov d) := ⟨h1⟩
  have HL : Box (d.uw.length < 1000000 ∧ Lens d.uw) := ⟨hu, h1.lens⟩
  have HBy : Box (B.length = 192 ∧ Byt B) := ⟨hB.1, hB.2.1⟩
  have ci : (w.alloc (.cells #[.int .i64 (i : Int)] 3)).cell? ⟨w.heap.size, 0, none⟩ = some (.int .i64 (i : Int)) := by rw [cell_of_row _ _ _ _ _ _ (al_at rfl)]; rfl
  clear h1 h2 hA1 H2 hB hap hi hu hcB hrng hnf hP hPs hfit hPl
  go_enter Tryz.func17, Tryz.ntmps17
  go_upto_region 6 with (go_at_call 36; refine HH.out.mono ?_; rintro e w' ⟨rfl, rfl⟩)
  have HB2 : Box (Below w.heap.size w (w.alloc (.cells #[.int .i64 (i : Int)] 3)).drew) := ⟨HBl.out.drew⟩
  clear HBl HH ci
  rw [HS.out]
  generalize w.alloc (.cells #[.int .i64 (i : Int)] 3) = w1 at HTp HB2 ⊢
  rename_i KK ax
  refine begin_but (P) (by kernel_rfl) (fun wd hwd => ?_)
  have GF : Box (Tp wd D P S d.n i B bb off) := ⟨HTp.out.drew hwd⟩
  have hin : i < d.n := HIn.out
  refine take_but (i := 0) (v := ?_) rfl (by kernel_rfl) (by kernel_rfl) (by kernel_rfl) (fun _ _ _ h => h) (by rfl) ?_ ?_
  rotate_left
  · intro w' hB; clear hB; go_simp <;> with_reducible rfl
  try simp only [Act.put, List.setIfInBounds_toArray, List.set_cons_zero, List.set_cons_succ, List.getElem_toArray, List.getElem_cons_zero]
  refine take_but (i := 1) (v := ?_) rfl (by kernel_rfl) (by kernel_rfl) (by kernel_rfl) (fun _ _ _ h => h) (by rfl) ?_ ?_
  rotate_left
  · intro w' hB; clear hB; go_simp <;> with_reducible rfl
  try simp only [Act.put, List.setIfInBounds_toArray, List.set_cons_zero, List.set_cons_succ, List.getElem_toArray, List.getElem_cons_zero, List.getElem_cons_succ]
  refine take_but (i := 2) (v := ?_) rfl (by kernel_rfl) (by kernel_rfl) (by kernel_rfl) (fun _ _ _ h => h) (by rfl) ?_ ?_
  rotate_left
  · intro w' hB; clear hB; go_simp <;> with_reducible rfl
  try simp only [Act.put, List.setIfInBounds_toArray, List.set_cons_zero, List.set_cons_succ, List.getElem_toArray, List.getElem_cons_zero, List.getElem_cons_succ]
  refine take_but (i := 3) (v := .slice (some ⟨P, 0, none⟩) d.n d.n) rfl (by kernel_rfl) (by kernel_rfl) (by kernel_rfl) (fun _ _ _ h => h) (by rfl) (fun w' hB => exec_load1 68 _ _ rfl Tryz.underlying68 rfl _ rfl _ (but_cell hB GF.out.c0 GF.out.n0)) ?_
  try simp only [Act.put, List.setIfInBounds_toArray, List.set_cons_zero, List.set_cons_succ, List.getElem_toArray, List.getElem_cons_zero, List.getElem_cons_succ]
  refine take_but (i := 4) (v := .int .i64 (i : Int)) rfl (by kernel_rfl) (by kernel_rfl) (by kernel_rfl) (fun _ _ _ h => h) (by rfl) (fun w' hB => exec_load1 3 _ _ rfl Tryz.underlying3 rfl _ rfl _ (but_cell hB GF.out.ci GF.out.ni)) ?_
  try simp only [Act.put, List.setIfInBounds_toArray, List.set_cons_zero, List.set_cons_succ, List.getElem_toArray, List.getElem_cons_zero, List.getElem_cons_succ]
  refine take_but (i := 5) (v := ?_) rfl (by kernel_rfl) (by kernel_rfl) (by kernel_rfl) (fun _ _ _ h => h) (by rfl) ?_ ?_
  rotate_left
  · intro w' hB; clear hB; go_simp <;> with_reducible rfl
  try simp only [Act.put, List.setIfInBounds_toArray, List.set_cons_zero, List.set_cons_succ, List.getElem_toArray, List.getElem_cons_zero, List.getElem_cons_succ]
  refine take_but (i := 6) (v := .pointer (some ⟨bb, off, none⟩)) rfl (by kernel_rfl) (by kernel_rfl) (by kernel_rfl) (fun _ _ _ h => h) (by rfl) (fun w' hB => exec_s2a w' _ rfl _ 192 cap rfl (Nat.le_refl _)) ?_
  try simp only [Act.put, List.setIfInBounds_toArray, List.set_cons_zero, List.set_cons_succ, List.getElem_toArray, List.getElem_cons_zero, List.getElem_cons_succ]
  refine take_but (i := 7) (v := .agg (u8s B)) rfl (by kernel_rfl) (by kernel_rfl) (by kernel_rfl) (fun _ _ _ h => h) (by rfl) (fun w' hB => exec_load_mid 93 _ _ rfl Tryz.underlying93 rfl bb off rfl (B.map (Value.int .u8)) GF.out.iz (but_range hB GF.out.rb GF.out.nb)) ?_
  try simp only [Act.put, List.setIfInBounds_toArray, List.set_cons_zero, List.set_cons_succ, List.getElem_toArray, List.getElem_cons_zero, List.getElem_cons_succ]
  refine take_but (i := 8) (v := ?_) rfl (by kernel_rfl) (by kernel_rfl) (by kernel_rfl) (fun _ _ _ h => h) (by rfl) ?_ ?_
  rotate_left
  · intro w' hB; clear hB; go_simp <;> with_reducible rfl
  try simp only [Act.put, List.setIfInBounds_toArray, List.set_cons_zero, List.set_cons_succ, List.getElem_toArray, List.getElem_cons_zero, List.getElem_cons_succ]
  refine last_but (i := 9) rfl (by kernel_rfl) (by rfl) (by kernel_rfl) 93 _ _ rfl (i * 192) (u8s B) rfl rfl GF.out.th GF.out.iy (all_u8s _) ?_
  show KK _ _
  refine ax _ _ ?_
  try simp only [Act.put, List.getElem_toArray, List.getElem_cons_zero, List.getElem_cons_succ]
  have HLd : Box _ := ⟨HA.out.laid (by rw [← hwd] at HB2; exact HB2.out) i B HIn.out HBy.out⟩
  have HSc : Box ((wd.setCells P (i * 192) (u8s B).toList).cell? ⟨S, 0, none⟩ = some (.int .i64 (i : Int))) := ⟨but_cell (but_setCells P (u8s B).toList (i * 192) wd wd (But.refl _ _)) GF.out.ci GF.out.ni⟩
  generalize wd.setCells P (i * 192) (u8s B).toList = w3 at HLd HSc ⊢
  have HDl : Box _ := ⟨delete_any w3 uv S i d.uw HL.out.2 HLd.out.1.hu HL.out.1 HSc.out (fun e => by have := HA.out.lt S (.inr (.inr (.inl e))); have := HS.out; omega)⟩
  obtain ⟨-, c1, -, -, -, -, -⟩ := HLd.out.1.cells
  have HSt : Box (∀ v' w4, w4.ownsRow 0 95 193 v' (oth i d.uw).length (wcs (oth i d.uw)) → Turned (fun k => uv.ownBlock = some k) w3 w4 → (∀ k, v'.ownBlock = some k → uv.ownBlock = some k) → _) := ⟨fun v' w4 x1 x2 x3 => HLd.out.1.struck i x1 x2 x3⟩
  clear ax GF HTp HB2 hwd HSc
  go_wp2_with (go_at_call 37; refine HDl.out.mono ?_; rintro e w4 ⟨v', rfl, x1, x2, x3⟩; obtain ⟨va, vc, rfl⟩ := own_form2 x1; have HX : Box _ := ⟨HSt.out _ w4 x1 x2 x3⟩; obtain ⟨-, -, -, d1, f1⟩ := HX.out; clear x1 x2 x3)
  go_ret
  refine ⟨rfl, ?_⟩
  obtain ⟨y1, y2, y3, -, -⟩ := HX.out
  exact At.nx HF.out y1 (HLd.out.2.trans y2 (fun k hk => .inl hk)) (fun k hk => .inl (y3 k hk))
end Go.Proofs.YthbbijaikcmaeaaGreatDoor.Disk
