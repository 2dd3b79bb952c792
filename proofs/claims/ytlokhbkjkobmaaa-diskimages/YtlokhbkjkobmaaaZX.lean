/-
  The law's same: a disk and the reference's that are alike are found alike.
-/
import Derived.Test.YtlokhbkjkobmaaaZV
import Derived.Test.YtlokhbkjkobmaaaZH
import Derived.Deep.QuietTactic
import Derived.BigQuiet
namespace Go.Proofs.Ytlokhbkjkobmaaa
set_option linter.unusedVariables false
open Go.RowKit Plain

theorem bytes_drewN' {w : World} {a : Option Addr} {len : Nat} {L : List Int} (h : Bytes w a len L) (n : Nat) : Bytes (w.drewN n) a len L := h.below (below_drewN (Below.refl _ _) n)
theorem drewN_on {w x : World} (h : ∃ m, x = w.drewN m) (n : Nat) : ∃ m, x.drewN n = w.drewN m := by
  obtain ⟨m, rfl⟩ := h
  exact ⟨m + n, World.drewN_drewN _ _ _⟩
/-- All that same looks at. -/
structure Sm (x : World) (S g : Nat) (V : List Value) (Ls : List Value) (vm v7 vo : Value) (d : Dk) : Prop where
  box : x.heap[S]? = some (.cells V.toArray 31 (0, 0))
  row : x.heap[g]? = some (.cells Ls.toArray 36 (0, 0))
  len : Ls.length = d.n
  each : ∀ i (h : i < Ls.length), x.ownsRow 0 5 1 Ls[i] 192 ((d.pl i).map (Value.int .u8))
  str : x.ownsRow 0 9 1 vm d.n ((List.range d.n).map (fun i => .string (strOfNums (d.pl i))))
  o7 : x.ownsRow 0 75 2 v7 d.ops.length (ocs d.ops)
  oo : x.ownsRow 0 76 2 vo d.ops.length (ocs d.ops)
theorem Sm.below {x y : World} {S g : Nat} {V Ls : List Value} {vm v7 vo : Value} {d : Dk} (h : Sm x S g V Ls vm v7 vo d) (hb : Below x.heap.size x y) : Sm y S g V Ls vm v7 vo d :=
  ⟨(hb.block S (Array.getElem?_eq_some_iff.1 h.box).1).trans h.box, (hb.block g (Array.getElem?_eq_some_iff.1 h.row).1).trans h.row, h.len, fun i hi => own_below (h.each i hi) hb, own_below h.str hb, own_below h.o7 hb, own_below h.oo hb⟩
theorem own_at1 {w : World} {e : TypeId} {v : Value} {n : Nat} {xs : List Value} (h : w.ownsRow 0 e 1 v n xs) (h0 : 0 < n) : ∃ g cap, v = .slice (some ⟨g, 0, none⟩) n cap ∧ ∀ k u, xs[k]? = some u → w.cell? ⟨g, k, none⟩ = some u := by
  rcases h.2 with ⟨_, h2⟩ | ⟨g, cap, cur, h1, _, hg, _⟩
  · omega
  · refine ⟨g, cap, h1, fun k u hu => ?_⟩
    have := World.ownsRow.cells h (g := g) (by rw [h1]; rfl) k u hu
    rw [Addr.add_lit, Nat.zero_add] at this
    exact this
theorem own_ops {w : World} {e : TypeId} {v : Value} {O : List (Int × Int)} (h : w.ownsRow 0 e 2 v O.length (ocs O)) (h0 : 0 < O.length) : ∃ g cap, v = .slice (some ⟨g, 0, none⟩) O.length cap ∧ ∀ k (hk : k < O.length), w.cell? ⟨g, k * 2, none⟩ = some (.int .i64 O[k].1) ∧ w.cell? ⟨g, k * 2 + 1, none⟩ = some (.int .i64 O[k].2) := by
  rcases h.2 with ⟨_, h2⟩ | ⟨g, cap, cur, h1, _, hg, _⟩
  · omega
  · refine ⟨g, cap, h1, fun k hk => ?_⟩
    have hh : ∀ j u, (ocs O)[j]? = some u → w.cell? ((⟨g, 0, none⟩ : Addr).add j) = some u := World.ownsRow.cells h (g := g) (by rw [h1]; rfl)
    have e : ∀ j, j < 2 → (ocs O)[2 * k + j]? = (oc O[k])[j]? := fun j hj => by
      rw [ocs, flat_at _ 2 (ocs_all O) k (by simpa using hk) j hj]
      simp
    have a0 := hh (2 * k + 0) _ (by rw [e 0 (by omega)]; rfl)
    have a1 := hh (2 * k + 1) _ (by rw [e 1 (by omega)]; rfl)
    rw [Addr.add_lit, Nat.zero_add] at a0 a1
    rw [Nat.mul_comm]
    exact ⟨a0, a1⟩
theorem own_bytes {w : World} {v : Value} {n : Nat} {B : List Int} (h : w.ownsRow 0 5 1 v n (B.map (Value.int .u8))) (hB : Byt B) (hl : B.length = n) : ∃ a cap, v = .slice a n cap ∧ Bytes w a n B := by
  rcases h.2 with ⟨rfl, rfl⟩ | ⟨g, cap, cur, h1, _, hg, _⟩
  · exact ⟨_, _, rfl, hl, hB, fun h => by omega⟩
  · refine ⟨_, _, h1, hl, hB, fun _ => ⟨g, 0, rfl, (Array.getElem?_eq_some_iff.1 hg).1, fun i hi => ?_⟩⟩
    have hu : (B.map (Value.int .u8))[i]? = some (.int .u8 (B.getD i 0)) := by
      have : i < B.length := by omega
      simp [List.getD, this]
    have := World.ownsRow.cells h (g := g) (by rw [h1]; rfl) i _ hu
    rw [Addr.add_lit] at this
    exact this
theorem pls_r {k : Nat} {d : Dk} {r : Rd} (h : J k d r) (n : Nat) : (pls r.done n).map (fun B => Value.string (strOfNums B)) = (List.range n).map (fun i => .string (strOfNums (d.pl i))) := by
  simp only [pls, List.map_map]
  apply List.map_congr_left
  intro i _
  simp [h.pl]
set_option maxRecDepth 20000 in
set_option maxHeartbeats 4000000 in
theorem same_any (w0 w : World) (D k : Nat) (d : Dk) (r : Rd) (v : Value) (C : Cm w0 w D d) (hR : Rv w v r) (hJ : J k d r) (hk : k < 900000) :
    Calls Try.prog 13 #[.pointer (some ⟨D, 0, none⟩), v] w fun e w' => e = .returned (.bool true) ∧ Below w.heap.size w w' := by
  obtain ⟨fp, ⟨P, uv, ov, hA, _⟩, _, _, _⟩ := C
  obtain ⟨vd, vw, vo, rfl, h1, h2, h3⟩ := hR
  have l1 := hJ.l1
  have l2 := hJ.l2
  have hn := hA.hn
  have hpl := hA.hpl
  have hO : d.ops.length ≤ k := by rw [← hJ.ops]; exact l2
  have hLd : r.done.length < 1000000 := by omega
  rw [hJ.way] at h2
  rw [hJ.ops] at h3
  have hP := pls_r hJ d.n
  rw [hJ.n]
  generalize r.left = l
  generalize r.down = b
  generalize r.done = Ld at h1 hLd hP
  clear l1 l2 hJ
  obtain ⟨ad, cd, rfl⟩ := own_form2 h1
  obtain ⟨aw, cw, rfl⟩ := own_form2 h2
  obtain ⟨ao, co, rfl⟩ := own_form2 h3
  have hb0 : Below w.heap.size w (w.alloc (.cells (rv d.n (.slice ad Ld.length cd) (.slice aw d.uw.length cw) l b (.slice ao d.ops.length co)).toArray 31)) := (Below.refl _ _).alloc (Nat.le_refl _) _
  have H : Box (At (w.alloc (.cells (rv d.n (.slice ad Ld.length cd) (.slice aw d.uw.length cw) l b (.slice ao d.ops.length co)).toArray 31)) D P uv ov d ∧ Below w.heap.size w (w.alloc (.cells (rv d.n (.slice ad Ld.length cd) (.slice aw d.uw.length cw) l b (.slice ao d.ops.length co)).toArray 31)) ∧ (w.alloc (.cells (rv d.n (.slice ad Ld.length cd) (.slice aw d.uw.length cw) l b (.slice ao d.ops.length co)).toArray 31)).heap[w.heap.size]? = some (.cells (rv d.n (.slice ad Ld.length cd) (.slice aw d.uw.length cw) l b (.slice ao d.ops.length co)).toArray 31 (0, 0)) ∧ Rw (w.alloc (.cells (rv d.n (.slice ad Ld.length cd) (.slice aw d.uw.length cw) l b (.slice ao d.ops.length co)).toArray 31)) (.slice ad Ld.length cd) Ld ∧ Ro (w.alloc (.cells (rv d.n (.slice ad Ld.length cd) (.slice aw d.uw.length cw) l b (.slice ao d.ops.length co)).toArray 31)) (.slice ao d.ops.length co) d.ops) := ⟨hA.below hb0, hb0, al_at rfl, h1.below hb0, h3.below hb0⟩
  obtain ⟨S, HS⟩ : ∃ S, Box (w.heap.size = S) := ⟨_, ⟨rfl⟩⟩
  have HN : Box (d.n ≤ 4096 ∧ Ld.length < 1000000 ∧ d.ops.length < 1000000 ∧ (∀ i, (d.pl i).length = 192 ∧ Byt (d.pl i))) := ⟨hn.2, hLd, by omega, hpl⟩
  have HP : Box ((pls Ld d.n).map (fun B => Value.string (strOfNums B)) = (List.range d.n).map (fun i => .string (strOfNums (d.pl i)))) := ⟨hP⟩
  have hn9 : d.n < 9223372036854775807 := by omega
  have ho9 : d.ops.length < 9223372036854775807 := by omega
  clear hA h1 h2 h3 hb0 hn hpl hO hLd hP hk
  go_enter Try.func13, Try.ntmps13
  go_upto_region 1 with fail
  rw [HS.out] at H ⊢
  generalize hV : rv d.n (.slice ad Ld.length cd) (.slice aw d.uw.length cw) l b (.slice ao d.ops.length co) = V at H ⊢
  generalize w.alloc (.cells V.toArray 31) = w1 at H ⊢
  have HI : Box _ := ⟨image_any w1 D P uv ov d H.out.1⟩
  go_upto_region 2 with (go_at_call 14; refine HI.out.mono ?_; rintro e w2 ⟨g, Ls, rfl, hrws⟩; have H2 : Box (Rws w1 w2 g d.n d.n d.pl Ls ∧ Below w1.heap.size w1 w2) := ⟨hrws, hrws.bel⟩; clear hrws)
  have HB2 : Box (w2.heap[S]? = some (.cells V.toArray 31 (0, 0)) ∧ Below S w w2) := ⟨(H2.out.2.block S (Array.getElem?_eq_some_iff.1 H.out.2.2.1).1).trans H.out.2.2.1, H.out.2.1.trans (H2.out.2.mono (HS.out ▸ H.out.2.1.size))⟩
  have HR : Box _ := ⟨rimage_any w2 d.n (.slice ad Ld.length cd) (.slice aw d.uw.length cw) (.slice ao d.ops.length co) l b Ld (H.out.2.2.2.1.below H2.out.2) rfl rfl HN.out.2.1 HN.out.1⟩
  rw [hV] at HR
  have hV6 : V.length = 6 := by rw [← hV]; rfl
  go_upto_region 3 with (first
    | (refine wpList_ldD rfl _ rfl S V rfl HB2.out.1 hV6 ?_)
    | (go_at_call 15; refine HR.out.mono ?_; rintro e w3 ⟨vm, rfl, hb3, hs3, _⟩; have H3 : Box (Below w2.heap.size w2 w3 ∧ w3.ownsRow 0 9 1 vm d.n ((List.range d.n).map (fun i => .string (strOfNums (d.pl i))))) := ⟨hb3, by rw [← HP.out]; unfold Rs at hs3; rw [length_pls] at hs3; exact hs3⟩; obtain ⟨am, cm, rfl⟩ := own_form2 H3.out.2; clear hb3 hs3))
  have HO : Box _ := ⟨ops_any w3 D P uv ov d ((H.out.1.below H2.out.2).below H3.out.1) HN.out.2.2.1⟩
  go_upto_region 4 with (go_at_call 27; refine HO.out.mono ?_; rintro e w4 ⟨v7, rfl, ho7, hb4, _⟩; have H4 : Box (Below w3.heap.size w3 w4 ∧ w4.ownsRow 0 75 2 v7 d.ops.length (ocs d.ops)) := ⟨hb4, ho7⟩; obtain ⟨a7, c7, rfl⟩ := own_form2 ho7; clear ho7 hb4)
  have hb24 : Below w2.heap.size w2 w4 := H3.out.1.trans (H4.out.1.mono H3.out.1.size)
  have HM : Box (Sm w4 S g V Ls (.slice am d.n cm) (.slice a7 d.ops.length c7) (.slice ao d.ops.length co) d ∧ Below S w w4 ∧ At w4 D P uv ov d) := ⟨⟨(hb24.block S (Array.getElem?_eq_some_iff.1 HB2.out.1).1).trans HB2.out.1, by
      have h5 := H2.out.1.row
      rw [Nat.sub_self, show nils 0 = [] from rfl, List.append_nil] at h5
      exact (hb24.block g (Array.getElem?_eq_some_iff.1 h5).1).trans h5, H2.out.1.len, fun i hi => own_below (H2.out.1.each i hi).1 hb24, own_below H3.out.2 H4.out.1, H4.out.2, own_below (own_below H.out.2.2.2.2 H2.out.2) hb24⟩, HB2.out.2.trans (hb24.mono (HS.out ▸ HB2.out.2.size)), (H.out.1.below H2.out.2).below hb24⟩
  clear hb24 HB2 H2 H3 H4 H HI HR HO
  have c0 : w4.cell? ⟨S, 0, none⟩ = some (.int .i64 (d.n : Int)) := by rw [cell_of_row _ _ _ _ _ _ HM.out.1.box, ← hV]; rfl
  have c2 : w4.cell? ⟨S, 2, none⟩ = some (.slice aw d.uw.length cw) := by rw [cell_of_row _ _ _ _ _ _ HM.out.1.box, ← hV]; rfl
  have c5 : w4.cell? ⟨S, 5, none⟩ = some (.slice ao d.ops.length co) := by rw [cell_of_row _ _ _ _ _ _ HM.out.1.box, ← hV]; rfl
  have HPe : Box (∀ m, Calls Try.prog 26 #[.pointer (some ⟨D, 0, none⟩)] (w4.drewN m) fun e w' => e = .returned (.int .i64 (d.uw.length : Int)) ∧ w' = w4.drewN m) := ⟨fun m => (pending_any (w4.drewN m) D P uv ov d (HM.out.2.2.below (below_drewN (Below.refl _ _) m))).mono fun e w' h => ⟨h.1, h.2.symm⟩⟩
  have HSz : Box (∀ m, Calls Try.prog 25 #[.pointer (some ⟨D, 0, none⟩)] (w4.drewN m) fun e w' => e = .returned (.int .i64 (d.n : Int)) ∧ w' = w4.drewN m) := ⟨fun m => (size_any (w4.drewN m) D P uv ov d (HM.out.2.2.below (below_drewN (Below.refl _ _) m))).mono fun e w' h => ⟨h.1, h.2.symm⟩⟩
  go_quiet (first
    | (go_at_call 26; exact Calls.quiet_of_same (HPe.out _))
    | (go_at_call 25; exact Calls.quiet_of_same (HSz.out _)))
  clear c0 c2 c5 HPe HSz
  go_wp2
  go_loopw [8] (fun j wr => ∃ q : Nat, q ≤ d.n ∧ j = .int .i64 q ∧ Box (∃ m, wr = w4.drewN m)) (fun j _ => d.n - (intOf j).toNat)
  case atStart => exact ⟨0, Nat.zero_le _, rfl, ⟨nq, rfl⟩⟩
  case round =>
    obtain ⟨q, hq, rfl, HI⟩ := hrel
    have HW : Box (Sm wr S g V Ls (.slice am d.n cm) (.slice a7 d.ops.length c7) (.slice ao d.ops.length co) d) := ⟨by obtain ⟨m, rfl⟩ := HI.out; exact HM.out.1.below (below_drewN (Below.refl _ _) m)⟩
    by_cases hlt : q < d.n
    · have hLs : q < Ls.length := by rw [HW.out.len]; exact hlt
      obtain ⟨ak, ck, ek, hby⟩ := own_bytes (HW.out.each q hLs) (HN.out.2.2.2 q).2 (HN.out.2.2.2 q).1
      have d1 : wr.cell? ⟨g, q, none⟩ = some (.slice ak 192 ck) := by
        rw [cell_of_row _ _ _ _ _ _ HW.out.row, ← ek]
        simp [hLs]
      obtain ⟨gm, cm', em, hcm⟩ := own_at1 HW.out.str (by omega)
      simp only [Value.slice.injEq, true_and] at em
      obtain ⟨rfl, rfl⟩ := em
      have d2 : wr.cell? ⟨gm, q, none⟩ = some (.string (strOfNums (d.pl q))) := hcm q _ (by simp [hlt])
      have q1 : ∀ m, (convert 36 9 (.slice ak 192 ck)).run Try.prog (wr.drewN m) = .ok (.string (strOfNums (d.pl q))) (wr.drewN m) := fun m => conv_bytes (bytes_drewN' hby m) ck
      generalize strOfNums (d.pl q) = sB at d2 q1
      clear hcm hby ek hLs HW
      go_wp2
      go_quiet (fail)
      go_wp2
      go_roundw
      case rel => exact ⟨q + 1, by omega, by go_num, ⟨drewN_on HI.out nq⟩⟩
      case measure => simp [intOf]; omega
    · obtain rfl : q = d.n := by omega
      go_wp2
      obtain ⟨w5, hw5⟩ : ∃ x, x = wr := ⟨_, rfl⟩
      have HI5 : Box (∃ m, w5 = w4.drewN m) := ⟨hw5 ▸ HI.out⟩
      go_loopw [9] (fun j wr => ∃ q : Nat, q ≤ d.ops.length ∧ j = .int .i64 q ∧ Box (∃ m, wr = w4.drewN m)) (fun j _ => d.ops.length - (intOf j).toNat)
      case atStart => exact ⟨0, Nat.zero_le _, rfl, HI⟩
      case round =>
        obtain ⟨z, hz, rfl, HI2⟩ := hrel
        have HW2 : Box (Sm wr S g V Ls (.slice am d.n cm) (.slice a7 d.ops.length c7) (.slice ao d.ops.length co) d) := ⟨by obtain ⟨m, rfl⟩ := HI2.out; exact HM.out.1.below (below_drewN (Below.refl _ _) m)⟩
        by_cases hlt2 : z < d.ops.length
        · obtain ⟨g7, cq, e7, h7⟩ := own_ops HW2.out.o7 (by omega)
          simp only [Value.slice.injEq, true_and] at e7
          obtain ⟨rfl, rfl⟩ := e7
          obtain ⟨g8, cr, e8, h8⟩ := own_ops HW2.out.oo (by omega)
          simp only [Value.slice.injEq, true_and] at e8
          obtain ⟨rfl, rfl⟩ := e8
          obtain ⟨x0, x1⟩ := h7 z hlt2
          obtain ⟨y0, y1⟩ := h8 z hlt2
          have c5 : wr.cell? ⟨S, 5, none⟩ = some (.slice (some ⟨g8, 0, none⟩) d.ops.length co) := by rw [cell_of_row _ _ _ _ _ _ HW2.out.box, ← hV]; rfl
          generalize d.ops[z] = o at x0 x1 y0 y1
          obtain ⟨o1, o2⟩ := o
          clear h7 h8 HW2 HI5 HI
          go_wp2
          go_quiet (fail)
          go_wp2
          go_roundw
          case rel => exact ⟨z + 1, by omega, by go_num, ⟨drewN_on HI2.out nq⟩⟩
          case measure => simp [intOf]; omega
        · obtain rfl : z = d.ops.length := by omega
          go_wp2
          go_ret
          exact ⟨rfl, by obtain ⟨m, rfl⟩ := HI2.out; exact HS.out ▸ (HM.out.2.1.trans (below_drewN (Below.refl _ _) m))⟩
end Go.Proofs.Ytlokhbkjkobmaaa
