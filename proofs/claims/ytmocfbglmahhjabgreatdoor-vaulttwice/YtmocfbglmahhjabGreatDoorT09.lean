/-
  What the Go method Read of package disk answers and does, for every disk and place.
-/
import Derived.Test.YtmocfbglmahhjabGreatDoorT08
namespace Go.Proofs.YtmocfbglmahhjabGreatDoor.Disk.Plain
set_option maxRecDepth 100000
end Go.Proofs.YtmocfbglmahhjabGreatDoor.Disk.Plain
namespace Go.Proofs.YtmocfbglmahhjabGreatDoor.Disk
set_option maxRecDepth 100000
set_option linter.unusedVariables false
set_option maxRecDepth 100000
open Go.RowKit Go.Proofs.YtmocfbglmahhjabGreatDoor.Plain Go.Proofs.YtmocfbglmahhjabGreatDoor.Disk.Plain
theorem At.nx {w w' : World} {D P : Nat} {uv ov uv' ov' : Value} {d' : Dk} {fp : Nat → Prop} (h2 : ∀ k, foot D P uv ov k → fp k) (i1 : At w' D P uv' ov' d') (t1 : Turned (foot D P uv ov) w w') (s1 : ∀ k, foot D P uv' ov' k → foot D P uv ov k ∨ w.heap.size ≤ k) : Nx D fp w w' d' :=
  ⟨foot D P uv' ov', ⟨P, uv', ov', i1, fun _ hk => hk⟩, ⟨t1.os, t1.tape, t1.output, t1.size, fun k hk hn => t1.block k hk (fun hf => hn (h2 k hf))⟩, fun k hk => (s1 k hk).imp (h2 k) id⟩
theorem length_lat {w : World} {D P : Nat} {uv ov : Value} {d : Dk} (h : At w D P uv ov d) (i : Nat) : (lat d i).length = 192 ∧ Byt (lat d i) := by
  unfold lat lastOf
  cases hf : d.uw.reverse.find? (fun x => x.1 == i) with
  | none => exact h.hpl i
  | some x =>
    have := h.huw x (List.mem_reverse.1 (List.mem_of_find?_eq_some hf))
    exact ⟨this.2.1, this.2.2⟩
/-- A disk without what it was asked. -/
def rdOk (d : Dk) (i : Int) : Dk := { d with ops := d.ops ++ [(1, i)] }
set_option maxRecDepth 20000 in
set_option maxHeartbeats 2000000 in
theorem read_down (w : World) (D : Nat) (fp : Nat → Prop) (d : Dk) (h : Is w D fp d) (i : Int) (hd : d.down = true) :
    Calls Tryz.prog 46 #[.pointer (some ⟨D, 0, none⟩), .int .i64 i] w fun e w' => e = .returned (.tuple #[.slice none 0 0, .int .i64 13]) ∧ w = w' := by
  obtain ⟨P, uv, ov, h1, h2⟩ := h
  have H := ready_any w D P uv ov d h1
  rw [show rdy d = 13 by simp [rdy, hd]] at H
  have HR : Box _ := ⟨H⟩
  clear H h1 h2 hd
  go_enter Tryz.func46, Tryz.ntmps46
  go_wp2_with (go_at_call 61; refine HR.out.mono ?_; rintro e w' ⟨rfl, rfl⟩)
  go_ret2
  exact ⟨rfl, rfl⟩
set_option maxRecDepth 20000 in
set_option maxHeartbeats 2000000 in
theorem read_ok (w : World) (D : Nat) (fp : Nat → Prop) (d : Dk) (h : Is w D fp d) (i : Nat) (hd : d.down = false) (hi : i < d.n) (ho : d.ops.length < 1000000000) (hu : d.uw.length < 1000000000) :
    Calls Tryz.prog 46 #[.pointer (some ⟨D, 0, none⟩), .int .i64 (i : Int)] w fun e w' =>
      ∃ R fp', e = .returned (.tuple #[.slice (some ⟨R, 0, none⟩) 192 192, .int .i64 0]) ∧ Is w' D fp' (rdOk d i) ∧ Turned fp w w' ∧ (∀ k, fp' k → fp k ∨ w.heap.size ≤ k) ∧ ¬ fp' R ∧ w.heap.size ≤ R ∧ w'.heap[R]? = some (.cells (u8s (lat d i)) 123 (0, 0)) := by
  obtain ⟨P, uv, ov, h1, h2⟩ := h
  have H := ready_any w D P uv ov d h1
  rw [show rdy d = 0 by simp [rdy, hd]] at H
  have HR : Box _ := ⟨H⟩
  have H2 := has_any w D P uv ov d h1 i
  rw [show hsp d i = true by simp [hsp, hi]] at H2
  have HH : Box _ := ⟨H2⟩
  have HN : Box _ := ⟨note_at w D P uv ov d h1 1 i ho⟩
  have HL : Box (∀ w1 ov', At w1 D P uv ov' { d with ops := d.ops ++ [(1, (i : Int))] } → Calls Tryz.prog 70 #[.pointer (some ⟨D, 0, none⟩), .int .i64 (i : Int)] w1 fun e w' => e = .returned (.agg (u8s (lat d i))) ∧ Below w1.heap.size w1 w') := ⟨fun w1 ov' ha => latest_at w1 D P uv ov' _ ha i hi hu⟩
  have hlen := (length_lat h1 i).1
  obtain ⟨B, EB⟩ := named (lat d i)
  rw [EB.out] at HL hlen ⊢
  have HI : Box ((Tryz.prog.info? 123).map (·.size) = some (u8s B).size) := ⟨by rw [size_u8s, hlen]; exact info79⟩
  have HZ : Box ((u8s z192).size = (u8s B).toList.length) := ⟨by rw [Array.length_toList, size_u8s, size_u8s, hlen, length_z192]⟩
  have HF : Box (∀ k, foot D P uv ov k → fp k) := ⟨h2⟩
  clear H H2 h1 h2 hd hi ho hu hlen EB
  go_enter Tryz.func46, Tryz.ntmps46
  go_wp2_with (first
    | (go_at_call 70; refine (HL.out _ _ HN1.out.1).mono ?_; rintro e w2 ⟨rfl, hb2⟩; have HN2 : Box _ := ⟨hb2⟩; clear hb2)
    | (go_at_call 63; refine HN.out.mono ?_; rintro e w1 ⟨rfl, ov', hn1⟩; have HN1 : Box _ := ⟨hn1⟩; clear hn1)
    | (go_at_call 61; refine HR.out.mono ?_; rintro e w' ⟨rfl, rfl⟩)
    | (go_at_call 69; refine HH.out.mono ?_; rintro e w' ⟨rfl, rfl⟩)
    | (refine wpList_run rfl _ _ (exec_alloc 123 rfl (u8s z192) zero79) ?_)
    | (refine wpList_store_mid rfl 123 _ _ rfl w2.heap.size 0 (u8s B) rfl rfl (there_row (al_at rfl) (by rw [HZ.out]; simp)) HI.out (all_u8s _) ?_))
  go_ret2
  obtain ⟨i1, t1, s1⟩ := HN1.out
  obtain ⟨n1, n2, n3⟩ := laid_new w2 (u8s z192) 123 (u8s B).toList HZ.out
  have hb := HN2.out
  have hb2 : Below w1.heap.size w1 ((w2.alloc (.cells (u8s z192) 123)).setCells w2.heap.size 0 (u8s B).toList) := hb.trans (n1.mono hb.size)
  obtain ⟨fp', j1, j2, j3⟩ := At.nx HF.out (i1.below hb2) (t1.trans (fp' := fun _ => False) (Turned.of_below hb2) (fun _ h => h.elim)) s1
  refine ⟨w2.heap.size, foot D P uv ov', rfl, ⟨P, uv, ov', i1.below hb2, fun _ hk => hk⟩, j2, fun k hk => (s1 k hk).imp (HF.out k) id, fun hf => ?_, ?_, n3⟩
  · have := i1.lt _ hf
    have := hb.size
    omega
  · have := t1.size
    have := hb.size
    omega
end Go.Proofs.YtmocfbglmahhjabGreatDoor.Disk
