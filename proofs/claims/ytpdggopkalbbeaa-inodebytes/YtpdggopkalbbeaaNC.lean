/-
  Where an inode's five numbers stand; what the functions Put answer, the code's and the reference's, for every inode.
-/
import Derived.Test.YtpdggopkalbbeaaNA
namespace Go.Proofs.Ytpdggopkalbbeaa
set_option linter.unusedVariables false
open Go.RowKit Plain

/-- Where an inode's five numbers stand. -/
def five (g : Nat) : Array Value := #[.pointer (some ⟨g, 3, none⟩), .pointer (some ⟨g, 4, none⟩), .pointer (some ⟨g, 5, none⟩), .pointer (some ⟨g, 6, none⟩), .pointer (some ⟨g, 7, none⟩)]
theorem five_at (S k : Nat) (hk : k < 5) : (five S)[k]? = some (.pointer (some ⟨S, 3 + k, none⟩)) := by
  match k, hk with
  | 0, _ => rfl
  | 1, _ => rfl
  | 2, _ => rfl
  | 3, _ => rfl
  | 4, _ => rfl
theorem index5 (S k : Nat) (hk : k < 5) (w : World) : (Instr.index 51 (.agg (five S)) (.int .i64 k)).run Try.prog w = .ok (.pointer (some ⟨S, 3 + k, none⟩)) w :=
  run_index_row Try.underlying51 Try.underlying50 rfl (by kernel_rfl) k hk (five_at S k hk) w
set_option maxRecDepth 20000 in
set_option maxHeartbeats 1000000 in
theorem blocks_any (g : Nat) (w : World) : Calls Try.prog 17 #[.pointer (some ⟨g, 0, none⟩)] w fun e w' => e = .returned (.agg (five g)) ∧ Below w.heap.size w w' := by
  go_enter Try.func17, Try.ntmps17
  go_wp2
  go_region
  go_wp2
  (try simp only [Exit.inBlock, Exit.then])
  refine bodyPost_ret (results_cell_row (p := 2) (ty := 51) rfl _ _ w.heap.size 51 (five g) (0, 0) _ rfl (al_at (w := w) rfl) Try.underlying51 rfl (by kernel_rfl)) rfl ?_
  exact ⟨rfl, ((Below.refl _ w).alloc (Nat.le_refl _) _).drew⟩
/-- An inode lies in block S. -/
def Lies (w : World) (S : Nat) (N : Nd) : Prop := w.heap[S]? = some (.cells (nc N) 26 (0, 0))
theorem Lies.lt {w : World} {g : Nat} {N : Nd} (h : Lies w g N) : g < w.heap.size := (Array.getElem?_eq_some_iff.1 h).1
theorem Lies.below {w w' : World} {g : Nat} {N : Nd} (h : Lies w g N) (hb : Below w.heap.size w w') : Lies w' g N := (hb.block g h.lt).trans h
theorem Lies.on {w w' : World} {g B : Nat} {N : Nd} (h : Lies w g N) (hb : Below B w w') (hg : g < B) : Lies w' g N := (hb.block g hg).trans h
theorem Lies.cell {w : World} {g : Nat} {N : Nd} (h : Lies w g N) (k : Nat) : w.cell? ⟨g, k, none⟩ = (nc N)[k]? := cell_of_row _ _ _ _ _ _ h
theorem Lies.froz {w : World} {g : Nat} {N : Nd} (h : Lies w g N) (k : Nat) : w.frozen? ⟨g, k, none⟩ = false := frozen_of_row _ _ _ _ _ h
theorem Lies.num {w : World} {g : Nat} {N : Nd} (h : Lies w g N) (k : Nat) (hk : k < 5) : w.cell? ⟨g, 3 + k, none⟩ = some (.int .u16 ((ns N).getD k 0)) := by rw [h.cell, nc_num N k hk]
theorem Lies.set {w : World} {g : Nat} {N : Nd} (h : Lies w g N) (k : Nat) (hk : k < 5) (x : Int) : Lies (w.setCell ⟨g, 3 + k, none⟩ (.int .u16 x)) g (setB N k x) := by
  unfold Lies
  rw [heap_setCell_same w g (3 + k) _ _ _ h, nc_set N k hk x]
theorem lies_new (w : World) (N : Nd) : Lies (w.alloc (.cells (nc N) 26)) w.heap.size N := al_at rfl
/-- What Put has put so far, behind the inode's own block S. -/
def Pt (N : Nd) (w1 wr : World) (S : Nat) (v : Value) (n : Nat) (A : List Int) : Prop :=
  wr.ownsRow (S + 1) 5 1 v n (A.map (Value.int .u8)) ∧ Below (S + 1) w1 wr ∧ S + 1 ≤ wr.heap.size ∧ Lies wr S N
theorem Pt.below {N : Nd} {w1 wr w' : World} {S n : Nat} {v : Value} {A : List Int} (h : Pt N w1 wr S v n A) (hb : Below wr.heap.size wr w') : Pt N w1 w' S v n A :=
  ⟨own_later h.1 hb, h.2.1.trans (hb.mono h.2.2.1), Nat.le_trans h.2.2.1 hb.size, h.2.2.2.below hb⟩
theorem Pt.app {N : Nd} {w1 wr w' : World} {S n m : Nat} {v v' : Value} {A L : List Int} (h : Pt N w1 wr S v n A) (hw : Box (w'.ownsRow (S + 1) 5 1 v' (n + m) ((A ++ L).map (Value.int .u8)) ∧ Below (S + 1) wr w' ∧ S + 1 ≤ w'.heap.size)) : Pt N w1 w' S v' (n + m) (A ++ L) :=
  ⟨hw.out.1, h.2.1.trans hw.out.2.1, hw.out.2.2, h.2.2.2.on hw.out.2.1 (by omega)⟩
theorem pad32 (a : Option Addr) (cap : Nat) (w : World) (L : List Int) (hb : Bytes w a 18 L) :
    Calls Try.prog 18 #[.slice a 18 cap, .int .i64 32] w fun e w' => ∃ g, e = .returned (.slice (some ⟨g, 0, none⟩) 32 32) ∧ Out w w' (some ⟨g, 0, none⟩) 32 32 (padTo L 32) :=
  pad_ok a 18 cap L 32 w hb (by omega) (by omega)

set_option maxRecDepth 20000 in
set_option maxHeartbeats 2000000 in
theorem nput_any (N : Nd) (w : World) (hN : OkN N) :
    Calls Try.prog 9 #[.agg (nc N)] w fun e w' => ∃ g, e = .returned (.slice (some ⟨g, 0, none⟩) 32 32) ∧ Out w w' (some ⟨g, 0, none⟩) 32 32 (nb N) := by
  obtain ⟨S, hS⟩ : ∃ S, w.heap.size = S := ⟨_, rfl⟩
  have HS : Box (w.heap.size = S) := ⟨hS⟩
  have HN : Box (OkN N) := ⟨hN⟩
  have H1 : Box (Lies (w.alloc (.cells (nc N) 26)) S N ∧ (w.alloc (.cells (nc N) 26)).heap.size = S + 1 ∧ Below S w (w.alloc (.cells (nc N) 26))) := ⟨al_at hS, by simp [hS], (Below.refl _ _).alloc (by omega) _⟩
  clear hS hN
  go_enter Try.func9, Try.ntmps9
  go_upto_region 1 with fail
  rw [HS.out]
  change Code.wp _ _ _ _ (w.alloc (.cells (nc N) 26))
  generalize w.alloc (.cells (nc N) 26) = w1 at H1 ⊢
  have c0 : w1.cell? ⟨S, 0, none⟩ = some (.int .u8 N.k) := H1.out.1.cell 0
  have H2 : Box (Bytes (w1.alloc (.cells #[.int .u8 N.k, .int .u8 0] 5)) (some ⟨w1.heap.size, 0, none⟩) 2 [N.k, 0] ∧ Lies (w1.alloc (.cells #[.int .u8 N.k, .int .u8 0] 5)) S N ∧ Below (S + 1) w1 (w1.alloc (.cells #[.int .u8 N.k, .int .u8 0] 5)) ∧ S + 1 ≤ (w1.alloc (.cells #[.int .u8 N.k, .int .u8 0] 5)).heap.size) := ⟨byt_lits w1 [N.k, 0] (byt_cons _ _ HN.out.hk (byt_cons _ _ (by omega) byt_nil)) (0, 0), H1.out.1.below (box_below _ _), (Below.refl _ _).alloc (by rw [H1.out.2.1]; exact Nat.le_refl _) _, by simp [H1.out.2.1]⟩
  go_upto_region 2 with fail
  clear c0
  generalize w1.alloc (.cells #[.int .u8 N.k, .int .u8 0] 5) = w2 at H2 ⊢
  generalize w1.heap.size = g1 at H2 ⊢
  have c1 : w2.cell? ⟨S, 1, none⟩ = some (.int .u16 N.l) := H2.out.2.1.cell 1
  have b1 := HN.out.hl
  unfold U16 at b1
  have W1 : IntKind.u64.wrap N.l = N.l := by rw [IntKind.wrap_u64]; omega
  go_upto_region 3 with (first
    | (go_at_call 16; (try rw [W1]); refine Calls.mono (put_n N.l 2 w2 b1.1 (by omega) (by omega) (by omega)) ?_; rintro e w3 ⟨g3, rfl, hB3, hb3⟩; have H3 : Box (Bytes w3 (some ⟨g1, 0, none⟩) 2 [N.k, 0] ∧ Bytes w3 (some ⟨g3, 0, none⟩) 2 (bytesOf N.l 2) ∧ Lies w3 S N ∧ Below (S + 1) w1 w3 ∧ S + 1 ≤ w3.heap.size) := ⟨H2.out.1.below hb3, hB3, H2.out.2.1.below hb3, H2.out.2.2.1.trans (hb3.mono H2.out.2.2.2), Nat.le_trans H2.out.2.2.2 hb3.size⟩; clear hB3 hb3)
    | (at_builtin; refine wpList_appG rfl _ _ rfl (S + 1) 2 2 2 [N.k, 0] (bytesOf N.l 2) ⟨g1, 0, none⟩ ⟨g3, 0, none⟩ w3 rfl rfl H3.out.1 H3.out.2.1 (by omega) (by omega) (Below.refl _ _) H3.out.2.2.2.2 ?_; intro v4 w4 h4; have H4 : Box (Pt N w1 w4 S v4 4 ([N.k, 0] ++ bytesOf N.l 2)) := ⟨⟨h4.out.1, H3.out.2.2.2.1.trans h4.out.2.1, h4.out.2.2, H3.out.2.2.1.on h4.out.2.1 (by omega)⟩⟩; clear h4 H3))
  clear c1 H2 W1 b1
  have c2 : w4.cell? ⟨S, 2, none⟩ = some (.int .u32 N.z) := H4.out.2.2.2.cell 2
  have b2 := HN.out.hz
  have W2 : IntKind.u64.wrap N.z = N.z := by rw [IntKind.wrap_u64]; omega
  go_upto_region 4 with (first
    | (go_at_call 16; (try rw [W2]); refine Calls.mono (put_n N.z 4 w4 b2.1 (by omega) (by omega) (by omega)) ?_; rintro e w5 ⟨g5, rfl, hB5, hb5⟩; have H5 : Box (Pt N w1 w5 S v4 4 ([N.k, 0] ++ bytesOf N.l 2)) := ⟨H4.out.below hb5⟩)
    | (at_builtin; refine wpList_app rfl _ _ rfl (S + 1) 4 4 4 _ ([N.k, 0] ++ bytesOf N.l 2) (bytesOf N.z 4) (some ⟨g5, 0, none⟩) w5 rfl rfl H5.out.1 hB5 (by omega) (Below.refl _ _) H5.out.2.2.1 ?_; intro v6 w6 h6; have H6 : Box (Pt N w1 w6 S v6 8 (nb0 N)) := ⟨H5.out.app h6⟩; clear h6 hB5 hb5 H5))
  clear c2 H4 W2 b2
  go_upto_region 5 with (go_at_call 17; refine Calls.mono (blocks_any S w6) ?_; rintro e w7 ⟨rfl, hb⟩; have H7 : Box (Pt N w1 w7 S v6 8 (nb0 N)) := ⟨H6.out.below hb⟩; clear hb)
  clear H6
  go_loopw [3, 22] (fun v i wr => ∃ k : Nat, k ≤ 5 ∧ i = .int .i64 k ∧ Box (Pt N w1 wr S v (8 + k * 2) (nb0 N ++ rowsOf (ns N) 2 k))) (fun _ i _ => 5 - (intOf i).toNat)
  case atStart => exact ⟨0, by omega, rfl, ⟨by simpa [rowsOf] using H7.out⟩⟩
  case round =>
    obtain ⟨k, hk, rfl, HP⟩ := hrel
    clear H7
    by_cases hlt : k < 5
    · have hix := index5 S k hlt
      have hc : wr.cell? ⟨S, 3 + k, none⟩ = some (.int .u16 ((ns N).getD k 0)) := HP.out.2.2.2.num k hlt
      have hu := HN.out.hn k
      have HR : Box (rowsOf (ns N) 2 (k + 1) = rowsOf (ns N) 2 k ++ bytesOf ((ns N).getD k 0) 2) := ⟨rfl⟩
      have HL : Box (8 + k * 2 + 2 ≤ 140737488355328) := ⟨by omega⟩
      generalize (ns N).getD k 0 = z at hc hu HR
      unfold U16 at hu
      have W1 : IntKind.u64.wrap z = z := by rw [IntKind.wrap_u64]; omega
      go_wp2_with (first
        | (go_at_call 16; (try rw [W1]); refine Calls.mono (put_n z 2 _ hu.1 (by omega) (by omega) (by omega)) ?_; rintro e w5 ⟨g5, rfl, hB, hb⟩; have H5 : Box (Pt N w1 w5 S u3 (8 + k * 2) (nb0 N ++ rowsOf (ns N) 2 k) ∧ Bytes w5 (some ⟨g5, 0, none⟩) 2 (bytesOf z 2)) := ⟨HP.out.below hb, hB⟩; clear hB hb hc)
        | (at_builtin; refine wpList_app rfl _ _ rfl (S + 1) (8 + k * 2) 2 2 _ (nb0 N ++ rowsOf (ns N) 2 k) (bytesOf z 2) _ w5 rfl rfl H5.out.1.1 H5.out.2 HL.out (Below.refl _ _) H5.out.1.2.2.1 ?_; intro v6 w6 h6; have H6 : Box (Pt N w1 w6 S v6 (8 + k * 2 + 2) (nb0 N ++ rowsOf (ns N) 2 k ++ bytesOf z 2)) := ⟨H5.out.1.app h6⟩; clear h6 H5))
      go_roundw
      case rel => exact ⟨k + 1, by omega, by go_num, ⟨by rw [HR.out, ← List.append_assoc, show 8 + (k + 1) * 2 = 8 + k * 2 + 2 by omega]; exact H6.out⟩⟩
      case measure => simp [intOf]; omega
    · obtain rfl : k = 5 := by omega
      obtain ⟨a5, c5, rfl⟩ := own_form HP.out.1
      have H7 : Box (Bytes wr a5 18 (nb0 N ++ rowsOf (ns N) 2 5)) := ⟨own_bytes HP.out.1 (byt_app _ _ (byt_nb0 HN.out) (rowsOf_bd _ 2 5))⟩
      have HB : Box (Below w.heap.size w wr) := ⟨by rw [HS.out]; exact H1.out.2.2.trans (HP.out.2.1.mono (by omega))⟩
      go_wp2_with (go_at_call 18; refine Calls.mono (pad32 a5 c5 wr _ H7.out) ?_; rintro e w7 ⟨g7, rfl, hO⟩)
      go_ret
      have hs := HB.out.size
      exact ⟨g7, rfl, ⟨hO.1, by
        refine ⟨hO.2.1.1, ?_⟩
        rcases hO.2.1.2 with h3 | ⟨g, cap', cur, h3, hb', r⟩
        · exact .inl h3
        · exact .inr ⟨g, cap', cur, h3, by omega, r⟩, below_to HB.out hO.2.2⟩⟩
end Go.Proofs.Ytpdggopkalbbeaa
