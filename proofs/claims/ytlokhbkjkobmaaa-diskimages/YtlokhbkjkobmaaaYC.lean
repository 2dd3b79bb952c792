/-
  The walk of DiskImages: a disk is what an image of it was, or the image is refused: the law returns true.
-/
import Derived.Test.YtlokhbkjkobmaaaZY
import Derived.Test.YtlokhbkjkobmaaaYB
namespace Go.Proofs.Ytlokhbkjkobmaaa
set_option linter.unusedVariables false
open Go.RowKit Plain

theorem J.up {k m : Nat} {d : Dk} {r : Rd} (h : J k d r) (hm : k ≤ m) : J m d r := ⟨h.n, h.pl, h.way, h.down, h.st, h.no, h.lo, h.ops, by have := h.l1; omega, by have := h.l2; omega⟩
theorem own_le {w : World} {base n cap : Nat} {e : TypeId} {sz : Nat} {a : Option Addr} {xs : List Value} (h : w.ownsRow base e sz (.slice a n cap) n xs) : n ≤ cap := by
  rcases h.2 with ⟨e, _⟩ | ⟨g, c, cur, e, _, _, hnc, _⟩
  · simp at e; omega
  · simp at e; omega
theorem rv_one {w : World} {V : List Value} {r : Rd} (h : Rv w (.agg V.toArray) r) : V.toArray.all (·.oneCell') = true := by
  obtain ⟨vd, vw, vo, e, h1, h2, h3⟩ := h
  simp only [Value.agg.injEq] at e
  rw [e]
  exact one_rv (oneR h1) (oneR h2) (oneO h3)
theorem At.rpl {w : World} {D P : Nat} {uv ov : Value} {d : Dk} {pl0 : Nat → List Int} (h : At w D P uv ov { d with pl := rpl pl0 d.n d.pl, uw := [] }) (hp : ∀ i, (pl0 i).length = 192 ∧ Byt (pl0 i)) : At w D P uv ov { d with pl := Go.Proofs.Ytlokhbkjkobmaaa.rpl pl0 d.n (fun _ => z192), uw := [] } := by
  obtain ⟨cs, h1, h2, h3⟩ := h.hp
  refine ⟨h.hd, ⟨cs, h1, h2, fun i hi j hj => ?_⟩, fun i => ?_, h.hn, h.hu, h.huw, h.ho, h.neP, h.neU, h.neO, h.neUO⟩
  · have h4 := h3 i hi j hj
    have hi' : i < d.n := hi
    simp only [Go.Proofs.Ytlokhbkjkobmaaa.rpl, hi', if_true] at h4 ⊢
    exact h4
  · show ((Go.Proofs.Ytlokhbkjkobmaaa.rpl pl0 d.n (fun _ => z192)) i).length = 192 ∧ Byt ((Go.Proofs.Ytlokhbkjkobmaaa.rpl pl0 d.n (fun _ => z192)) i)
    unfold Go.Proofs.Ytlokhbkjkobmaaa.rpl
    by_cases hi : i < d.n
    · rw [if_pos hi]; exact hp i
    · rw [if_neg hi]; exact ⟨length_z192, byt_z192⟩
/-- The strings of an image. -/
def Sst (w : World) (v : Value) (n : Nat) (pl0 : Nat → List Int) : Prop := w.ownsRow 0 9 1 v n ((List.range n).map (fun i => .string (strOfNums (pl0 i))))
theorem both_restore {w0 w : World} {D k : Nat} {d : Dk} {r : Rd} (C : Cm w0 w D d) (hJ : J k d r) (hk : k ≤ 100) (g c gm cm n0 : Nat) (hn0 : d.n = n0) (Ls : List Value) (pl0 : Nat → List Int) (hI : Im w g n0 Ls pl0) :
    Calls Try.prog 16 #[.pointer (some ⟨D, 0, none⟩), .slice (some ⟨g, 0, none⟩) n0 c] w fun e w' => ∃ d' r', e = .returned (.int .i64 0) ∧ Cm w0 w' D d' ∧ Fr w w' ∧ J 5000 d' r' ∧ ∀ w2 v, Rv w2 v r → Sst w2 (.slice (some ⟨gm, 0, none⟩) n0 cm) n0 pl0 →
      Calls Try.prog 17 #[v, .slice (some ⟨gm, 0, none⟩) n0 cm] w2 fun e w3 => ∃ v', e = .returned (.tuple #[v', .int .i64 0]) ∧ Rv w3 v' r' ∧ Below w2.heap.size w2 w3 := by
  subst hn0
  obtain ⟨fp, c0⟩ := C
  have l2 := hJ.l2
  obtain ⟨P, uv, ov, hA, hfp⟩ := c0.is
  have hn := hA.hn
  refine (restore_ok w D P uv ov d hA g c Ls pl0 hI).mono ?_
  rintro e w' ⟨rfl, hA', t⟩
  have hA2 := hA'.rpl hI.byt
  obtain ⟨fp', c', _⟩ := c0.nx (At.nx hfp hA2 t (fun k hk => by
    rcases hk with rfl | rfl | hk | hk
    · exact .inl (.inl rfl)
    · exact .inl (.inr (.inl rfl))
    · simp [Value.ownBlock] at hk
    · exact .inl (.inr (.inr (.inr hk)))))
  refine ⟨_, { r with done := rl pl0 d.n, way := [] }, rfl, ⟨fp', c'⟩, fr_turned hA t, ⟨hJ.n, fun i => rat_rl pl0 d.n i, rfl, hJ.down, hJ.st, hJ.no, hJ.lo, hJ.ops, by show (rl pl0 d.n).length + 0 ≤ 5000; rw [length_rl]; omega, by show r.ops.length ≤ 5000; omega⟩, fun w2 v hv hs => ?_⟩
  obtain ⟨vd, vw, vo, rfl, h1, h2, h3⟩ := hv
  rw [hJ.n]
  refine (rrestore_ok w2 d.n vd vw vo r.left r.down (oneR h1) (oneR h2) (oneO h3) gm cm pl0 hs (fun i => (hI.byt i).1) hn.2).mono ?_
  rintro e w3 ⟨vd', rfl, hb, h4⟩
  exact ⟨_, rfl, ⟨vd', _, vo, rfl, h4, Rw.nil _, h3.below hb⟩, hb⟩
theorem few_v {w : World} {v : Value} {r : Rd} (h : Rv w v r) (a : Option Addr) (len cap : Nat) (hne : len ≠ r.n) : Calls Try.prog 17 #[v, .slice a len cap] w fun e w' => e = .returned (.tuple #[v, .int .i64 1]) ∧ Below w.heap.size w w' := by
  obtain ⟨vd, vw, vo, rfl, h1, h2, h3⟩ := h
  exact rrestore_few w r.n vd vw vo r.left r.down (oneR h1) (oneR h2) (oneO h3) a len cap hne
theorem im_put {w w' : World} {g n : Nat} {Ls : List Value} {pl0 : Nat → List Int} {b : Nat} {Z : Array Value} (h : Im w g n Ls pl0) (hb : w.heap[b]? = some (.cells Z 31 (0, 0))) (t : Turned (fun k => k = b) w w') : Im w' g n Ls pl0 := by
  refine ⟨?_, h.len, fun i hi => own_turned (h.each i hi) t (own_ne (h.each i hi) hb (by decide)), h.byt⟩
  refine (t.block g (Array.getElem?_eq_some_iff.1 h.row).1 (fun e => ?_)).trans h.row
  subst e
  have h1 := h.row
  rw [hb] at h1
  simp only [Option.some.injEq, Obj.cells.injEq] at h1
  exact absurd h1.2.1 (by decide)
set_option maxRecDepth 20000 in
set_option maxHeartbeats 20000000 in
theorem images_in (n : Int) (q : Nat) (a : Option Addr) (len cap : Nat) (a2 : Option Addr) (len2 cap2 : Nat) (ct : Bool) (w : World) (hn : 0 ≤ n ∧ n ≤ 255) (hq : n % 6 = (q : Int)) (hA : Acts w a len) (hA2 : Acts w a2 len2) :
    Calls Try.prog 4 #[.int .u8 n, .slice a len cap, .slice a2 len2 cap2, .bool ct] w fun e w' => e = .returned (.bool true) ∧ Below w.heap.size w w' := by
  have hl9 : len < 9223372036854775808 := by have := hA.1; unfold maxLen at this; omega
  have hl29 : len2 < 9223372036854775808 := by have := hA2.1; unfold maxLen at this; omega
  have HA : Box (Acts w a len) := ⟨hA⟩
  have HA2 : Box (Acts w a2 len2) := ⟨hA2⟩
  have hq6 : q < 6 := by omega
  have hmod : IntKind.u8.wrap (n % 6) = (q : Int) := by rw [hq, IntKind.wrap_u8]; omega
  have HN : Box (∀ (x : Int) (y : World), x = (q : Int) + 1 → Calls Try.prog 10 #[.int .i64 x] y fun e w' => e = .returned (.tuple #[.pointer (some ⟨y.heap.size + 1, 0, none⟩), .int .i64 0]) ∧ ∃ fp, Cx y w' (y.heap.size + 1) fp (dk0 (q + 1))) := ⟨fun x y hx => by
    have h := new_cx y (q + 1) (by omega)
    rw [show ((q + 1 : Nat) : Int) = x by omega] at h
    exact h⟩
  have HN2 : Box (∀ (x : Int) (y : World), x = (q : Int) + 1 → Calls Try.prog 11 #[.int .i64 x] y fun e w' => ∃ v, e = .returned (.tuple #[v, .int .i64 0]) ∧ Rv w' v (rd0 (q + 1)) ∧ Below y.heap.size y w') := ⟨fun x y hx => by
    have h := rnew_any y (q + 1) (by omega)
    rw [show ((q + 1 : Nat) : Int) = x by omega] at h
    exact h⟩
  clear hA hA2
  go_enter Try.func4, Try.ntmps4
  go_upto_region 4 with (go_at_call 9; refine (awake_any _).mono ?_; rintro e w1 ⟨rfl, hb1⟩; have HB1 : Box (Below w.heap.size w w1) := ⟨hb1⟩; clear hb1)
  go_upto_region 5 with (go_at_call 10; refine (HN.out _ w1 (by first | rfl | omega)).mono ?_; rintro e w2 ⟨rfl, hcx⟩; have HC : Box (Cm w1 w2 (w1.heap.size + 1) (dk0 (q + 1))) := ⟨hcx⟩; clear hcx)
  generalize w1.heap.size + 1 = DD at HC ⊢
  go_upto_region 6 with (first
    | (go_at_call 11; refine (HN2.out _ w2 (by first | rfl | omega)).mono ?_; rintro e w3 ⟨v3, rfl, hv3, hb3⟩; obtain ⟨V3, rfl, hV3, ho3⟩ := rv_of hv3; have H3 : Box (Below w2.heap.size w2 w3 ∧ V3.length = 6 ∧ V3.toArray.all (·.oneCell') = true ∧ Rv w3 (.agg V3.toArray) (rd0 (q + 1))) := ⟨hb3, hV3, ho3, hv3⟩; clear hv3 hb3 hV3 ho3)
    | (refine wpList_run rfl _ _ (exec_alloc 31 rfl _ zeroD) ?_)
    | (refine wpList_stN rfl _ _ rfl _ V3 rfl rfl rfl H3.out.2.1 H3.out.2.2.1 ?_))
  have hb4 : Below w3.heap.size w3 (w3.alloc (.cells V3.toArray 31)) := (Below.refl _ _).alloc (Nat.le_refl _) _
  have hG : Box (w1.heap.size ≤ w3.heap.size) := ⟨by obtain ⟨fp, c⟩ := HC.out; exact Nat.le_trans c.bel.size H3.out.1.size⟩
  have H4 : Box (∃ d r V, Pl w1 (w3.alloc (.cells V3.toArray 31)) DD w3.heap.size d r V ∧ J 0 d r) := ⟨_, _, V3, ⟨al_at rfl, H3.out.2.1, (HC.out.step H3.out.1).step hb4, H3.out.2.2.2.below hb4, hG.out⟩, j_new (q + 1)⟩
  clear hb4 HC H3 HN HN2 hmod hq hn hq6
  generalize w3.alloc (.cells V3.toArray 31) = w4 at H4 ⊢
  generalize w3.heap.size = G at H4 hG ⊢
  go_wp2
  go_loopw [14] (fun j wr => ∃ k : Nat, k ≤ len ∧ k ≤ 20 ∧ j = .int .i64 k ∧ Box (∃ d r V, Pl w1 wr DD G d r V ∧ J k d r)) (fun j _ => len - (intOf j).toNat)
  case atStart => exact ⟨0, Nat.zero_le _, Nat.zero_le _, rfl, H4⟩
  case round =>
    clear H4
    obtain ⟨k, hk, hk20, rfl, HI⟩ := hrel
    obtain ⟨d, r, V, hP, hJ⟩ := HI.out
    have HP : Box (Pl w1 wr DD G d r V) := ⟨hP⟩
    clear hP HI
    by_cases hlt : k < len
    · by_cases hlt2 : k < 20
      · have HJ : Box (J k d r) := ⟨hJ⟩
        obtain ⟨sb, so, kd, sl, xa, xl, xc, ka, kl, kc, sh, X, K, rfl, hE, hX, hKb, hKn, hxl, hkl, hsl⟩ := HA.out.at_ HB1.out k hlt
        have HE : Box (∀ w', Below w1.heap.size w1 w' → w'.rangeAt sb (so + k * 5) (ac kd sl xa xl xc ka kl kc sh)) := ⟨hE⟩
        have HST : Box (∀ (x : World) (V : List Value) (d : Dk) (r : Rd), Cm w1 x DD d → Rv x (.agg V.toArray) r → V.length = 6 → J k d r → Calls Try.prog 12 #[.pointer (some ⟨DD, 0, none⟩), .agg V.toArray, .agg (ac kd sl xa xl xc ka kl kc sh).toArray] x fun e w' => ∃ v', e = .returned (.tuple #[v', .bool true]) ∧ Stp w1 x DD k d w' v') := ⟨fun x V d r hc hr h6 hj => step_any w1 x DD k d r V hc hr h6 hj (by omega) kd sl xa xl xc ka kl kc sh X K hX hKb hKn hxl hkl hsl⟩
        clear hE hX hKb hKn hxl hkl hsl hJ
        go_upto_region 11 with fail
        rename_i KK ax
        try simp only [Act.put, List.setIfInBounds_toArray, List.set_cons_zero, List.set_cons_succ, List.getElem_toArray, List.getElem_cons_zero, List.getElem_cons_succ]
        refine begin_lo w1 (by kernel_rfl) (fun wd hwd => ?_)
        have GB : Box (Pl w1 wd DD G d r V ∧ J k d r) := ⟨by rw [hwd]; exact HP.out.on (Below.refl _ _).drew, HJ.out⟩
        have hfrd : Fr wr wd := by rw [hwd]; exact Fr.below ((Below.refl _ _).drew)
        have GS : Box (Below w1.heap.size w1 wd) := ⟨GB.out.1.bel⟩
        clear hwd
        refine wpAnyH_take (i := 0) (v := ?_) rfl (by kernel_rfl) (by kernel_rfl) (by kernel_rfl) (fun _ _ _ h => h) (Or.inl ⟨by rfl, ?_⟩) GS.out ?_
        rotate_left
        · intro w' hB; clear hB; go_simp <;> with_reducible rfl
        try simp only [Act.put, List.setIfInBounds_toArray, List.set_cons_zero, List.set_cons_succ, List.getElem_toArray, List.getElem_cons_zero]
        refine wpAnyH_take (i := 2) (v := ?_) rfl (by kernel_rfl) (by kernel_rfl) (by kernel_rfl) (fun _ _ _ h => h) (Or.inl ⟨by rfl, ?_⟩) GS.out ?_
        rotate_left
        · intro w' hB; clear hB; go_simp <;> with_reducible rfl
        try simp only [Act.put, List.setIfInBounds_toArray, List.set_cons_zero, List.set_cons_succ, List.getElem_toArray, List.getElem_cons_zero, List.getElem_cons_succ]
        refine wpAnyH_take (i := 3) (v := ?_) rfl (by kernel_rfl) (by kernel_rfl) (by kernel_rfl) (fun _ _ _ h => h) (Or.inl ⟨by rfl, ?_⟩) GS.out ?_
        rotate_left
        · intro w' hB; clear hB; go_simp <;> with_reducible rfl
        try simp only [Act.put, List.setIfInBounds_toArray, List.set_cons_zero, List.set_cons_succ, List.getElem_toArray, List.getElem_cons_zero, List.getElem_cons_succ]
        refine wpAnyH_take (i := 4) (v := ?_) rfl (by kernel_rfl) (by kernel_rfl) (by kernel_rfl) (fun _ _ _ h => h) (Or.inl ⟨by rfl, ?_⟩) GS.out ?_
        rotate_left
        · intro w' hB; clear hB; go_simp <;> with_reducible rfl
        try simp only [Act.put, List.setIfInBounds_toArray, List.set_cons_zero, List.set_cons_succ, List.getElem_toArray, List.getElem_cons_zero, List.getElem_cons_succ]
        refine wpAnyH_take (i := 5) (v := .agg (ac kd sl xa xl xc ka kl kc sh).toArray) rfl (by kernel_rfl) (by kernel_rfl) (by kernel_rfl) (fun _ _ _ h => h) (Or.inl ⟨by rfl, fun w' hB => exec_load_mid 39 _ _ rfl Try.underlying39 rfl sb (so + k * 5) rfl (ac kd sl xa xl xc ka kl kc sh) infoA2 (HE.out w' hB)⟩) GS.out ?_
        try simp only [Act.put, List.setIfInBounds_toArray, List.set_cons_zero, List.set_cons_succ, List.getElem_toArray, List.getElem_cons_zero, List.getElem_cons_succ]
        refine step_kp (i := 1) rfl (by kernel_rfl) (by rfl) (fun KK hK => ?_)
        refine wp_load_row 31 _ rfl G rfl _ _ _ _ GB.out.1.box Try.underlying31 rfl (by rw [infoD]; simp [GB.out.1.v6]) ?_
        refine hK _ _ GS.out ?_
        clear hK KK
        try simp only [Act.put, List.setIfInBounds_toArray, List.set_cons_zero, List.set_cons_succ, List.getElem_toArray, List.getElem_cons_zero, List.getElem_cons_succ]
        refine step_kp (i := 6) rfl (by kernel_rfl) (by rfl) (fun KK hK => ?_)
        go_simp
        refine Calls.mono (HST.out wd V d r GB.out.1.cm GB.out.1.rv GB.out.1.v6 GB.out.2) ?_
        rintro e w4 ⟨v4, rfl, hst⟩
        obtain ⟨d', r', cm', rv', j', fr', nn'⟩ := hst
        obtain ⟨V4, rfl, hV4, ho4⟩ := rv_of rv'
        have GB4 : Box (Below w1.heap.size w1 w4 ∧ w4.heap[G]? = some (.cells V.toArray 31 (0, 0))) := ⟨by obtain ⟨fp, c⟩ := cm'; exact c.bel, (fr'.2 _ _ _ _ GB.out.1.box (by unfold Own4; decide)).trans GB.out.1.box⟩
        refine hK _ _ GB4.out.1 ?_
        clear hK KK
        try simp only [Act.put, List.setIfInBounds_toArray, List.set_cons_zero, List.set_cons_succ, List.getElem_toArray, List.getElem_cons_zero, List.getElem_cons_succ]
        refine wpAnyH_take (i := 7) (v := ?_) rfl (by kernel_rfl) (by kernel_rfl) (by kernel_rfl) (fun _ _ _ h => h) (Or.inl ⟨by rfl, ?_⟩) GB4.out.1 ?_
        rotate_left
        · intro w' hB; clear hB; go_simp <;> with_reducible rfl
        try simp only [Act.put, List.setIfInBounds_toArray, List.set_cons_zero, List.set_cons_succ, List.getElem_toArray, List.getElem_cons_zero, List.getElem_cons_succ]
        refine wpAnyH_take (i := 8) (v := ?_) rfl (by kernel_rfl) (by kernel_rfl) (by kernel_rfl) (fun _ _ _ h => h) (Or.inl ⟨by rfl, ?_⟩) GB4.out.1 ?_
        rotate_left
        · intro w' hB; clear hB; go_simp <;> with_reducible rfl
        try simp only [Act.put, List.setIfInBounds_toArray, List.set_cons_zero, List.set_cons_succ, List.getElem_toArray, List.getElem_cons_zero, List.getElem_cons_succ]
        refine wpAnyH_take (i := 9) (v := ?_) rfl (by kernel_rfl) (by kernel_rfl) (by kernel_rfl) (fun _ _ _ h => h) (Or.inl ⟨by rfl, ?_⟩) GB4.out.1 ?_
        rotate_left
        · intro w' hB; clear hB; go_simp <;> with_reducible rfl
        try simp only [Act.put, List.setIfInBounds_toArray, List.set_cons_zero, List.set_cons_succ, List.getElem_toArray, List.getElem_cons_zero, List.getElem_cons_succ]
        refine step_kp (i := 10) rfl (by kernel_rfl) (by rfl) (fun KK hK => ?_)
        refine wp_stG _ _ rfl G V4 rfl rfl ⟨_, GB4.out.2, by simp [GB.out.1.v6]⟩ hV4 ho4 ?_
        intro w5 h5 t5
        have HP5 : Box (Pl w1 w5 DD G d' r' V4 ∧ J (k + 1) d' r') := ⟨⟨h5, hV4, cm'.put GB4.out.2 HP.out.lo t5, rv'.put GB4.out.2 t5, HP.out.lo⟩, j'⟩
        refine hK _ _ HP5.out.1.bel ?_
        clear hK KK
        try simp only [Act.put, List.getElem_toArray, List.getElem_cons_zero, List.getElem_cons_succ]
        refine wpAnyH_done (by kernel_rfl) ?_ _
        show KK _ _
        refine ax _ _ ?_
        try simp only [Act.put, List.setIfInBounds_toArray, List.set_cons_zero, List.set_cons_succ, List.getElem_toArray, List.getElem_cons_zero, List.getElem_cons_succ]
        have HL3 : Box (∃ d r V, Pl w1 w5 DD G d r V ∧ J (k + 1) d r) := ⟨d', r', V4, HP5.out.1, HP5.out.2⟩
        clear ax GB GS GB4 HE HST cm' rv' j' fr' nn' h5 t5 HP HJ hfrd
        go_wp2
        go_roundw
        case rel => exact ⟨k + 1, by omega, by omega, by simp, HL3⟩
        case measure => simp [intOf]; omega
      · obtain rfl : k = 20 := by omega
        have HJ : Box (J 20 d r) := ⟨hJ⟩
        clear hJ
        obtain ⟨fp, cx⟩ := HP.out.cm
        obtain ⟨P, uv, ov, hAt, _⟩ := cx.is
        obtain ⟨vd, vw, vo, ev, r1, r2, r3⟩ := HP.out.rv
        simp only [Value.agg.injEq] at ev
        have EV : Box (V = rv r.n vd vw r.left r.down vo ∧ Rw wr vd r.done ∧ Rw wr vw r.way ∧ Ro wr vo r.ops) := ⟨by simpa using ev, r1, r2, r3⟩
        have HAt : Box (At wr DD P uv ov d) := ⟨hAt⟩
        clear ev r1 r2 r3 cx hAt
        have HI6 : Box _ := ⟨image_any wr DD P uv ov d HAt.out⟩
        have HN0 : Box (1 ≤ d.n ∧ d.n ≤ 4096) := ⟨HAt.out.hn⟩
        go_upto_region 13 with (go_at_call 14; refine HI6.out.mono ?_; rintro e w6 ⟨g, Ls, rfl, hrws⟩; have H6 : Box (Rws wr w6 g d.n d.n d.pl Ls ∧ Below wr.heap.size wr w6) := ⟨hrws, hrws.bel⟩; clear hrws)
        have HR6 : Box (Calls Try.prog 15 #[.agg V.toArray] w6 fun e w' => ∃ v', e = .returned v' ∧ Below w6.heap.size w6 w' ∧ Rs w' v' (pls r.done d.n) ∧ ∀ k, v'.ownBlock = some k → w6.heap.size ≤ k) := ⟨by have hJl := HJ.out.l1; rw [EV.out.1, HJ.out.n]; exact rimage_any w6 d.n vd vw vo r.left r.down r.done (EV.out.2.1.below H6.out.2) (oneR EV.out.2.2.1) (oneO EV.out.2.2.2) (by omega) HN0.out.2⟩
        have HPl : Box ((pls r.done d.n).map (fun B => Value.string (strOfNums B)) = (List.range d.n).map (fun i => .string (strOfNums (d.pl i)))) := ⟨pls_r HJ.out d.n⟩
        have HP6 : Box (Pl w1 w6 DD G d r V) := ⟨HP.out.on H6.out.2⟩
        go_upto_region 14 with (first
          | (refine wpList_ldD rfl _ rfl G V rfl HP6.out.box HP6.out.v6 ?_)
          | (go_at_call 15; refine HR6.out.mono ?_; rintro e w7 ⟨vm, rfl, hb7, hs7, _⟩; have H7 : Box (Below w6.heap.size w6 w7 ∧ Sst w7 vm d.n d.pl) := ⟨hb7, by unfold Sst; rw [← HPl.out]; unfold Rs at hs7; rw [length_pls] at hs7; exact hs7⟩; clear hb7 hs7))
        obtain ⟨gm, cm, evm, _⟩ := own_at1 H7.out.2 (by have := HN0.out; omega)
        subst evm
        have him7 : Im w7 g d.n Ls d.pl := Im.fr ⟨by
          have h5 := H6.out.1.row
          rw [Nat.sub_self, show nils 0 = [] from rfl, List.append_nil] at h5
          exact h5, H6.out.1.len, fun i hi => (H6.out.1.each i hi).1, HAt.out.hpl⟩ (Fr.below H7.out.1)
        have HL2 : Box (∃ d' r' V, Pl w1 w7 DD G d' r' V ∧ J (20 + 0) d' r' ∧ d'.n = d.n ∧ Im w7 g d.n Ls d.pl ∧ Sst w7 (.slice (some ⟨gm, 0, none⟩) d.n cm) d.n d.pl) := ⟨d, r, V, HP6.out.on H7.out.1, HJ.out, rfl, him7, H7.out.2⟩
        have hcm : d.n ≤ cm := own_le H7.out.2
        clear him7 hcm H7 HP6 HPl HR6 H6 HI6 EV HAt HP HJ
        generalize d.pl = pl0 at HL2
        generalize d.n = n0 at HL2 HN0 ⊢
        go_wp2
        go_loopw [17] (fun j wr => ∃ k : Nat, k ≤ len2 ∧ k ≤ 20 ∧ j = .int .i64 k ∧ Box (∃ d r V, Pl w1 wr DD G d r V ∧ J (20 + k) d r ∧ d.n = n0 ∧ Im wr g n0 Ls pl0 ∧ Sst wr (.slice (some ⟨gm, 0, none⟩) n0 cm) n0 pl0)) (fun j _ => len2 - (intOf j).toNat)
        case atStart => exact ⟨0, Nat.zero_le _, Nat.zero_le _, rfl, HL2⟩
        case round =>
          clear HL2
          obtain ⟨kk, hkk, hkk20, rfl, HI2⟩ := hrel
          obtain ⟨d, r, V, hP, hJ, hnn, him, hss⟩ := HI2.out
          have HP : Box (Pl w1 wr DD G d r V) := ⟨hP⟩
          have HNn : Box (d.n = n0) := ⟨hnn⟩
          have HIm : Box (Im wr g n0 Ls pl0) := ⟨him⟩
          have HSs : Box (Sst wr (.slice (some ⟨gm, 0, none⟩) n0 cm) n0 pl0) := ⟨hss⟩
          clear hP hnn him hss HI2
          by_cases hlt : kk < len2
          · by_cases hlt2 : kk < 20
            · obtain ⟨k, ek⟩ : ∃ k, 20 + kk = k := ⟨_, rfl⟩
              rw [ek] at hJ
              have HJ : Box (J k d r) := ⟨hJ⟩
              obtain ⟨sb, so, kd, sl, xa, xl, xc, ka, kl, kc, sh, X, K, rfl, hE, hX, hKb, hKn, hxl, hkl, hsl⟩ := HA2.out.at_ HB1.out kk hlt
              have HE : Box (∀ w', Below w1.heap.size w1 w' → w'.rangeAt sb (so + kk * 5) (ac kd sl xa xl xc ka kl kc sh)) := ⟨hE⟩
              have HST : Box (∀ (x : World) (V : List Value) (d : Dk) (r : Rd), Cm w1 x DD d → Rv x (.agg V.toArray) r → V.length = 6 → J k d r → Calls Try.prog 12 #[.pointer (some ⟨DD, 0, none⟩), .agg V.toArray, .agg (ac kd sl xa xl xc ka kl kc sh).toArray] x fun e w' => ∃ v', e = .returned (.tuple #[v', .bool true]) ∧ Stp w1 x DD k d w' v') := ⟨fun x V d r hc hr h6 hj => step_any w1 x DD k d r V hc hr h6 hj (by omega) kd sl xa xl xc ka kl kc sh X K hX hKb hKn hxl hkl hsl⟩
              have hek : Box (20 + kk = k) := ⟨ek⟩
              clear hE hX hKb hKn hxl hkl hsl hJ ek
              go_upto_region 17 with fail
              rename_i KK ax
              try simp only [Act.put, List.setIfInBounds_toArray, List.set_cons_zero, List.set_cons_succ, List.getElem_toArray, List.getElem_cons_zero, List.getElem_cons_succ]
              refine begin_lo w1 (by kernel_rfl) (fun wd hwd => ?_)
              have GB : Box (Pl w1 wd DD G d r V ∧ J k d r) := ⟨by rw [hwd]; exact HP.out.on (Below.refl _ _).drew, HJ.out⟩
              have hfrd : Fr wr wd := by rw [hwd]; exact Fr.below ((Below.refl _ _).drew)
              have GS : Box (Below w1.heap.size w1 wd) := ⟨GB.out.1.bel⟩
              clear hwd
              refine wpAnyH_take (i := 0) (v := ?_) rfl (by kernel_rfl) (by kernel_rfl) (by kernel_rfl) (fun _ _ _ h => h) (Or.inl ⟨by rfl, ?_⟩) GS.out ?_
              rotate_left
              · intro w' hB; clear hB; go_simp <;> with_reducible rfl
              try simp only [Act.put, List.setIfInBounds_toArray, List.set_cons_zero, List.set_cons_succ, List.getElem_toArray, List.getElem_cons_zero]
              refine wpAnyH_take (i := 2) (v := ?_) rfl (by kernel_rfl) (by kernel_rfl) (by kernel_rfl) (fun _ _ _ h => h) (Or.inl ⟨by rfl, ?_⟩) GS.out ?_
              rotate_left
              · intro w' hB; clear hB; go_simp <;> with_reducible rfl
              try simp only [Act.put, List.setIfInBounds_toArray, List.set_cons_zero, List.set_cons_succ, List.getElem_toArray, List.getElem_cons_zero, List.getElem_cons_succ]
              refine wpAnyH_take (i := 3) (v := ?_) rfl (by kernel_rfl) (by kernel_rfl) (by kernel_rfl) (fun _ _ _ h => h) (Or.inl ⟨by rfl, ?_⟩) GS.out ?_
              rotate_left
              · intro w' hB; clear hB; go_simp <;> with_reducible rfl
              try simp only [Act.put, List.setIfInBounds_toArray, List.set_cons_zero, List.set_cons_succ, List.getElem_toArray, List.getElem_cons_zero, List.getElem_cons_succ]
              refine wpAnyH_take (i := 4) (v := ?_) rfl (by kernel_rfl) (by kernel_rfl) (by kernel_rfl) (fun _ _ _ h => h) (Or.inl ⟨by rfl, ?_⟩) GS.out ?_
              rotate_left
              · intro w' hB; clear hB; go_simp <;> with_reducible rfl
              try simp only [Act.put, List.setIfInBounds_toArray, List.set_cons_zero, List.set_cons_succ, List.getElem_toArray, List.getElem_cons_zero, List.getElem_cons_succ]
              refine wpAnyH_take (i := 5) (v := .agg (ac kd sl xa xl xc ka kl kc sh).toArray) rfl (by kernel_rfl) (by kernel_rfl) (by kernel_rfl) (fun _ _ _ h => h) (Or.inl ⟨by rfl, fun w' hB => exec_load_mid 39 _ _ rfl Try.underlying39 rfl sb (so + kk * 5) rfl (ac kd sl xa xl xc ka kl kc sh) infoA2 (HE.out w' hB)⟩) GS.out ?_
              try simp only [Act.put, List.setIfInBounds_toArray, List.set_cons_zero, List.set_cons_succ, List.getElem_toArray, List.getElem_cons_zero, List.getElem_cons_succ]
              refine step_kp (i := 1) rfl (by kernel_rfl) (by rfl) (fun KK hK => ?_)
              refine wp_load_row 31 _ rfl G rfl _ _ _ _ GB.out.1.box Try.underlying31 rfl (by rw [infoD]; simp [GB.out.1.v6]) ?_
              refine hK _ _ GS.out ?_
              clear hK KK
              try simp only [Act.put, List.setIfInBounds_toArray, List.set_cons_zero, List.set_cons_succ, List.getElem_toArray, List.getElem_cons_zero, List.getElem_cons_succ]
              refine step_kp (i := 6) rfl (by kernel_rfl) (by rfl) (fun KK hK => ?_)
              go_simp
              refine Calls.mono (HST.out wd V d r GB.out.1.cm GB.out.1.rv GB.out.1.v6 GB.out.2) ?_
              rintro e w4 ⟨v4, rfl, hst⟩
              obtain ⟨d', r', cm', rv', j', fr', nn'⟩ := hst
              obtain ⟨V4, rfl, hV4, ho4⟩ := rv_of rv'
              have GB4 : Box (Below w1.heap.size w1 w4 ∧ w4.heap[G]? = some (.cells V.toArray 31 (0, 0))) := ⟨by obtain ⟨fp, c⟩ := cm'; exact c.bel, (fr'.2 _ _ _ _ GB.out.1.box (by unfold Own4; decide)).trans GB.out.1.box⟩
              refine hK _ _ GB4.out.1 ?_
              clear hK KK
              try simp only [Act.put, List.setIfInBounds_toArray, List.set_cons_zero, List.set_cons_succ, List.getElem_toArray, List.getElem_cons_zero, List.getElem_cons_succ]
              refine wpAnyH_take (i := 7) (v := ?_) rfl (by kernel_rfl) (by kernel_rfl) (by kernel_rfl) (fun _ _ _ h => h) (Or.inl ⟨by rfl, ?_⟩) GB4.out.1 ?_
              rotate_left
              · intro w' hB; clear hB; go_simp <;> with_reducible rfl
              try simp only [Act.put, List.setIfInBounds_toArray, List.set_cons_zero, List.set_cons_succ, List.getElem_toArray, List.getElem_cons_zero, List.getElem_cons_succ]
              refine wpAnyH_take (i := 8) (v := ?_) rfl (by kernel_rfl) (by kernel_rfl) (by kernel_rfl) (fun _ _ _ h => h) (Or.inl ⟨by rfl, ?_⟩) GB4.out.1 ?_
              rotate_left
              · intro w' hB; clear hB; go_simp <;> with_reducible rfl
              try simp only [Act.put, List.setIfInBounds_toArray, List.set_cons_zero, List.set_cons_succ, List.getElem_toArray, List.getElem_cons_zero, List.getElem_cons_succ]
              refine wpAnyH_take (i := 9) (v := ?_) rfl (by kernel_rfl) (by kernel_rfl) (by kernel_rfl) (fun _ _ _ h => h) (Or.inl ⟨by rfl, ?_⟩) GB4.out.1 ?_
              rotate_left
              · intro w' hB; clear hB; go_simp <;> with_reducible rfl
              try simp only [Act.put, List.setIfInBounds_toArray, List.set_cons_zero, List.set_cons_succ, List.getElem_toArray, List.getElem_cons_zero, List.getElem_cons_succ]
              refine step_kp (i := 10) rfl (by kernel_rfl) (by rfl) (fun KK hK => ?_)
              refine wp_stG _ _ rfl G V4 rfl rfl ⟨_, GB4.out.2, by simp [GB.out.1.v6]⟩ hV4 ho4 ?_
              intro w5 h5 t5
              have HP5 : Box (Pl w1 w5 DD G d' r' V4 ∧ J (k + 1) d' r') := ⟨⟨h5, hV4, cm'.put GB4.out.2 HP.out.lo t5, rv'.put GB4.out.2 t5, HP.out.lo⟩, j'⟩
              refine hK _ _ HP5.out.1.bel ?_
              clear hK KK
              try simp only [Act.put, List.getElem_toArray, List.getElem_cons_zero, List.getElem_cons_succ]
              refine wpAnyH_done (by kernel_rfl) ?_ _
              show KK _ _
              refine ax _ _ ?_
              try simp only [Act.put, List.setIfInBounds_toArray, List.set_cons_zero, List.set_cons_succ, List.getElem_toArray, List.getElem_cons_zero, List.getElem_cons_succ]
              have HL3 : Box (∃ d r V, Pl w1 w5 DD G d r V ∧ J (20 + (kk + 1)) d r ∧ d.n = n0 ∧ Im w5 g n0 Ls pl0 ∧ Sst w5 (.slice (some ⟨gm, 0, none⟩) n0 cm) n0 pl0) := ⟨d', r', V4, HP5.out.1, by have := HP5.out.2; rw [← hek.out] at this; exact this, nn'.trans HNn.out, im_put ((HIm.out.fr hfrd).fr fr') GB4.out.2 t5, own_turned (fr'.own (hfrd.own HSs.out (by unfold Own4; decide)) (by unfold Own4; decide)) t5 (own_ne (fr'.own (hfrd.own HSs.out (by unfold Own4; decide)) (by unfold Own4; decide)) GB4.out.2 (by decide))⟩
              clear ax GB GS GB4 HE HST cm' rv' j' fr' nn' h5 t5 hfrd HP HNn HIm HSs HJ
              go_wp2
              go_roundw
              case rel => exact ⟨kk + 1, by omega, by omega, by simp, HL3⟩
              case measure => simp [intOf]; omega
            · obtain rfl : kk = 20 := by omega
              have HJ : Box (J 100 d r) := ⟨hJ.up (by omega)⟩
              clear hJ
              cases ct with
              | true =>
                have hn1 : 1 ≤ n0 := HN0.out.1
                have HR1 : Box (∀ (al : Option Addr) (lx cx : Nat), lx = n0 - 1 → Calls Try.prog 16 #[.pointer (some ⟨DD, 0, none⟩), .slice al lx cx] wr fun e w' => e = .returned (.int .i64 1) ∧ wr = w') := ⟨fun al lx cx hx => by
                  obtain ⟨fp, c⟩ := HP.out.cm
                  obtain ⟨P, uv, ov, hA, _⟩ := c.is
                  exact restore_few wr DD P uv ov d hA al lx cx (by have := HNn.out; have := HN0.out; omega) (by have := HN0.out; omega)⟩
                have HR2 : Box (∀ (al : Option Addr) (lx cx : Nat), lx = n0 - 1 → Calls Try.prog 17 #[.agg V.toArray, .slice al lx cx] wr fun e w' => e = .returned (.tuple #[.agg V.toArray, .int .i64 1]) ∧ Below wr.heap.size wr w') := ⟨fun al lx cx hx => few_v HP.out.rv _ _ _ (by rw [HJ.out.n]; have := HNn.out; have := HN0.out; omega)⟩
                have HV1 : Box (V.toArray.all (·.oneCell') = true) := ⟨rv_one HP.out.rv⟩
                go_upto_region 23 with (first
                  | (go_at_call 16; refine (HR1.out _ _ _ rfl).mono ?_; rintro e w' ⟨rfl, rfl⟩)
                  | (refine wpList_ldD rfl _ rfl G V rfl HP.out.box HP.out.v6 ?_)
                  | (go_at_call 17; refine (HR2.out _ _ _ rfl).mono ?_; rintro e w3 ⟨rfl, hb3⟩; have H3 : Box (Pl w1 w3 DD G d r V) := ⟨HP.out.on hb3⟩; clear hb3)
                  | (refine wpList_run rfl _ _ (exec_alloc 31 rfl _ zeroD) ?_)
                  | (refine wpList_stN rfl _ _ rfl _ V rfl rfl rfl HP.out.v6 HV1.out ?_))
                all_goals (
                  have hb4 : Below w3.heap.size w3 (w3.alloc (.cells V.toArray 31)) := (Below.refl _ _).alloc (Nat.le_refl _) _
                  have H4 : Box (Pl w1 (w3.alloc (.cells V.toArray 31)) DD G d r V ∧ (w3.alloc (.cells V.toArray 31)).heap[w3.heap.size]? = some (.cells V.toArray 31 (0, 0))) := ⟨H3.out.on hb4, al_at rfl⟩
                  clear hb4 HR1 HR2 H3
                  generalize w3.alloc (.cells V.toArray 31) = w4 at H4 ⊢
                  generalize w3.heap.size = G2 at H4 ⊢
                  have HSm : Box (Calls Try.prog 13 #[.pointer (some ⟨DD, 0, none⟩), .agg V.toArray] w4 fun e w' => e = .returned (.bool true) ∧ Below w4.heap.size w4 w') := ⟨same_any w1 w4 DD 100 d r _ H4.out.1.cm H4.out.1.rv HJ.out (by omega)⟩
                  go_wp2_with (first
                    | (refine wpList_ldDw _ rfl G2 V rfl H4.out.2 HP.out.v6 rfl ?_)
                    | (go_at_call 13; refine HSm.out.mono ?_; rintro e w6 ⟨rfl, hb6⟩; have H6 : Box (Below w1.heap.size w1 w6) := ⟨below_to H4.out.1.bel hb6⟩; clear hb6))
                  all_goals (go_ret; exact ⟨rfl, below_to HB1.out H6.out⟩))
              | false =>
                have HR : Box _ := ⟨both_restore HP.out.cm HJ.out (by omega) g n0 gm cm n0 HNn.out Ls pl0 HIm.out⟩
                go_upto_region 22 with (go_at_call 16; refine HR.out.mono ?_; rintro e w2 ⟨d', r', rfl, cm', fr', j', hr⟩; have H2 : Box (Cm w1 w2 DD d' ∧ Fr wr w2 ∧ J 5000 d' r') := ⟨cm', fr', j'⟩; have HRf : Box _ := ⟨hr⟩; clear cm' fr' j' hr)
                have H2b : Box (w2.heap[G]? = some (.cells V.toArray 31 (0, 0)) ∧ Rv w2 (.agg V.toArray) r ∧ Sst w2 (.slice (some ⟨gm, 0, none⟩) n0 cm) n0 pl0) := ⟨(H2.out.2.1.2 _ _ _ _ HP.out.box (by unfold Own4; decide)).trans HP.out.box, HP.out.rv.fr H2.out.2.1, H2.out.2.1.own HSs.out (by unfold Own4; decide)⟩
                go_upto_region 23 with (first
                  | (refine wpList_ldD rfl _ rfl G V rfl H2b.out.1 HP.out.v6 ?_)
                  | (go_at_call 17; refine (HRf.out w2 _ H2b.out.2.1 H2b.out.2.2).mono ?_; rintro e w3 ⟨v3, rfl, hv3, hb3⟩; obtain ⟨V3, rfl, hV3, ho3⟩ := rv_of hv3; have H3 : Box (Cm w1 w3 DD d' ∧ Rv w3 (.agg V3.toArray) r' ∧ V3.length = 6 ∧ V3.toArray.all (·.oneCell') = true) := ⟨H2.out.1.step hb3, hv3, hV3, ho3⟩; clear hv3 hb3 hV3 ho3)
                  | (refine wpList_run rfl _ _ (exec_alloc 31 rfl _ zeroD) ?_)
                  | (refine wpList_stN rfl _ _ rfl _ V3 rfl rfl rfl H3.out.2.2.1 H3.out.2.2.2 ?_))
                have hb4 : Below w3.heap.size w3 (w3.alloc (.cells V3.toArray 31)) := (Below.refl _ _).alloc (Nat.le_refl _) _
                have H4 : Box (Cm w1 (w3.alloc (.cells V3.toArray 31)) DD d' ∧ Rv (w3.alloc (.cells V3.toArray 31)) (.agg V3.toArray) r' ∧ (w3.alloc (.cells V3.toArray 31)).heap[w3.heap.size]? = some (.cells V3.toArray 31 (0, 0))) := ⟨H3.out.1.step hb4, H3.out.2.1.below hb4, al_at rfl⟩
                clear hb4 HR HRf
                generalize w3.alloc (.cells V3.toArray 31) = w4 at H4 ⊢
                generalize w3.heap.size = G2 at H4 ⊢
                have HSm : Box (Calls Try.prog 13 #[.pointer (some ⟨DD, 0, none⟩), .agg V3.toArray] w4 fun e w' => e = .returned (.bool true) ∧ Below w4.heap.size w4 w') := ⟨same_any w1 w4 DD 5000 d' r' _ H4.out.1 H4.out.2.1 H2.out.2.2 (by omega)⟩
                have HB4 : Box (Below w1.heap.size w1 w4) := ⟨by obtain ⟨fp, c⟩ := H4.out.1; exact c.bel⟩
                go_wp2_with (first
                  | (refine wpList_ldDw _ rfl G2 V3 rfl H4.out.2.2 H3.out.2.2.1 rfl ?_)
                  | (go_at_call 13; refine HSm.out.mono ?_; rintro e w6 ⟨rfl, hb6⟩; have H6 : Box (Below w1.heap.size w1 w6) := ⟨below_to HB4.out hb6⟩; clear hb6))
                go_ret
                exact ⟨rfl, below_to HB1.out H6.out⟩
          · obtain rfl : kk = len2 := by omega
            have HJ : Box (J 100 d r) := ⟨hJ.up (by omega)⟩
            clear hJ
            cases ct with
            | true =>
              have hn1 : 1 ≤ n0 := HN0.out.1
              have HR1 : Box (∀ (al : Option Addr) (lx cx : Nat), lx = n0 - 1 → Calls Try.prog 16 #[.pointer (some ⟨DD, 0, none⟩), .slice al lx cx] wr fun e w' => e = .returned (.int .i64 1) ∧ wr = w') := ⟨fun al lx cx hx => by
                obtain ⟨fp, c⟩ := HP.out.cm
                obtain ⟨P, uv, ov, hA, _⟩ := c.is
                exact restore_few wr DD P uv ov d hA al lx cx (by have := HNn.out; have := HN0.out; omega) (by have := HN0.out; omega)⟩
              have HR2 : Box (∀ (al : Option Addr) (lx cx : Nat), lx = n0 - 1 → Calls Try.prog 17 #[.agg V.toArray, .slice al lx cx] wr fun e w' => e = .returned (.tuple #[.agg V.toArray, .int .i64 1]) ∧ Below wr.heap.size wr w') := ⟨fun al lx cx hx => few_v HP.out.rv _ _ _ (by rw [HJ.out.n]; have := HNn.out; have := HN0.out; omega)⟩
              have HV1 : Box (V.toArray.all (·.oneCell') = true) := ⟨rv_one HP.out.rv⟩
              go_upto_region 23 with (first
                | (go_at_call 16; refine (HR1.out _ _ _ rfl).mono ?_; rintro e w' ⟨rfl, rfl⟩)
                | (refine wpList_ldD rfl _ rfl G V rfl HP.out.box HP.out.v6 ?_)
                | (go_at_call 17; refine (HR2.out _ _ _ rfl).mono ?_; rintro e w3 ⟨rfl, hb3⟩; have H3 : Box (Pl w1 w3 DD G d r V) := ⟨HP.out.on hb3⟩; clear hb3)
                | (refine wpList_run rfl _ _ (exec_alloc 31 rfl _ zeroD) ?_)
                | (refine wpList_stN rfl _ _ rfl _ V rfl rfl rfl HP.out.v6 HV1.out ?_))
              all_goals (
                have hb4 : Below w3.heap.size w3 (w3.alloc (.cells V.toArray 31)) := (Below.refl _ _).alloc (Nat.le_refl _) _
                have H4 : Box (Pl w1 (w3.alloc (.cells V.toArray 31)) DD G d r V ∧ (w3.alloc (.cells V.toArray 31)).heap[w3.heap.size]? = some (.cells V.toArray 31 (0, 0))) := ⟨H3.out.on hb4, al_at rfl⟩
                clear hb4 HR1 HR2 H3
                generalize w3.alloc (.cells V.toArray 31) = w4 at H4 ⊢
                generalize w3.heap.size = G2 at H4 ⊢
                have HSm : Box (Calls Try.prog 13 #[.pointer (some ⟨DD, 0, none⟩), .agg V.toArray] w4 fun e w' => e = .returned (.bool true) ∧ Below w4.heap.size w4 w') := ⟨same_any w1 w4 DD 100 d r _ H4.out.1.cm H4.out.1.rv HJ.out (by omega)⟩
                go_wp2_with (first
                  | (refine wpList_ldDw _ rfl G2 V rfl H4.out.2 HP.out.v6 rfl ?_)
                  | (go_at_call 13; refine HSm.out.mono ?_; rintro e w6 ⟨rfl, hb6⟩; have H6 : Box (Below w1.heap.size w1 w6) := ⟨below_to H4.out.1.bel hb6⟩; clear hb6))
                all_goals (go_ret; exact ⟨rfl, below_to HB1.out H6.out⟩))
            | false =>
              have HR : Box _ := ⟨both_restore HP.out.cm HJ.out (by omega) g n0 gm cm n0 HNn.out Ls pl0 HIm.out⟩
              go_upto_region 22 with (go_at_call 16; refine HR.out.mono ?_; rintro e w2 ⟨d', r', rfl, cm', fr', j', hr⟩; have H2 : Box (Cm w1 w2 DD d' ∧ Fr wr w2 ∧ J 5000 d' r') := ⟨cm', fr', j'⟩; have HRf : Box _ := ⟨hr⟩; clear cm' fr' j' hr)
              have H2b : Box (w2.heap[G]? = some (.cells V.toArray 31 (0, 0)) ∧ Rv w2 (.agg V.toArray) r ∧ Sst w2 (.slice (some ⟨gm, 0, none⟩) n0 cm) n0 pl0) := ⟨(H2.out.2.1.2 _ _ _ _ HP.out.box (by unfold Own4; decide)).trans HP.out.box, HP.out.rv.fr H2.out.2.1, H2.out.2.1.own HSs.out (by unfold Own4; decide)⟩
              go_upto_region 23 with (first
                | (refine wpList_ldD rfl _ rfl G V rfl H2b.out.1 HP.out.v6 ?_)
                | (go_at_call 17; refine (HRf.out w2 _ H2b.out.2.1 H2b.out.2.2).mono ?_; rintro e w3 ⟨v3, rfl, hv3, hb3⟩; obtain ⟨V3, rfl, hV3, ho3⟩ := rv_of hv3; have H3 : Box (Cm w1 w3 DD d' ∧ Rv w3 (.agg V3.toArray) r' ∧ V3.length = 6 ∧ V3.toArray.all (·.oneCell') = true) := ⟨H2.out.1.step hb3, hv3, hV3, ho3⟩; clear hv3 hb3 hV3 ho3)
                | (refine wpList_run rfl _ _ (exec_alloc 31 rfl _ zeroD) ?_)
                | (refine wpList_stN rfl _ _ rfl _ V3 rfl rfl rfl H3.out.2.2.1 H3.out.2.2.2 ?_))
              have hb4 : Below w3.heap.size w3 (w3.alloc (.cells V3.toArray 31)) := (Below.refl _ _).alloc (Nat.le_refl _) _
              have H4 : Box (Cm w1 (w3.alloc (.cells V3.toArray 31)) DD d' ∧ Rv (w3.alloc (.cells V3.toArray 31)) (.agg V3.toArray) r' ∧ (w3.alloc (.cells V3.toArray 31)).heap[w3.heap.size]? = some (.cells V3.toArray 31 (0, 0))) := ⟨H3.out.1.step hb4, H3.out.2.1.below hb4, al_at rfl⟩
              clear hb4 HR HRf
              generalize w3.alloc (.cells V3.toArray 31) = w4 at H4 ⊢
              generalize w3.heap.size = G2 at H4 ⊢
              have HSm : Box (Calls Try.prog 13 #[.pointer (some ⟨DD, 0, none⟩), .agg V3.toArray] w4 fun e w' => e = .returned (.bool true) ∧ Below w4.heap.size w4 w') := ⟨same_any w1 w4 DD 5000 d' r' _ H4.out.1 H4.out.2.1 H2.out.2.2 (by omega)⟩
              have HB4 : Box (Below w1.heap.size w1 w4) := ⟨by obtain ⟨fp, c⟩ := H4.out.1; exact c.bel⟩
              go_wp2_with (first
                | (refine wpList_ldDw _ rfl G2 V3 rfl H4.out.2.2 H3.out.2.2.1 rfl ?_)
                | (go_at_call 13; refine HSm.out.mono ?_; rintro e w6 ⟨rfl, hb6⟩; have H6 : Box (Below w1.heap.size w1 w6) := ⟨below_to HB4.out hb6⟩; clear hb6))
              go_ret
              exact ⟨rfl, below_to HB1.out H6.out⟩
    · obtain rfl : k = len := by omega
      have HJ : Box (J 20 d r) := ⟨hJ.up hk20⟩
      clear hJ
      obtain ⟨fp, cx⟩ := HP.out.cm
      obtain ⟨P, uv, ov, hAt, _⟩ := cx.is
      obtain ⟨vd, vw, vo, ev, r1, r2, r3⟩ := HP.out.rv
      simp only [Value.agg.injEq] at ev
      have EV : Box (V = rv r.n vd vw r.left r.down vo ∧ Rw wr vd r.done ∧ Rw wr vw r.way ∧ Ro wr vo r.ops) := ⟨by simpa using ev, r1, r2, r3⟩
      have HAt : Box (At wr DD P uv ov d) := ⟨hAt⟩
      clear ev r1 r2 r3 cx hAt
      have HI6 : Box _ := ⟨image_any wr DD P uv ov d HAt.out⟩
      have HN0 : Box (1 ≤ d.n ∧ d.n ≤ 4096) := ⟨HAt.out.hn⟩
      go_upto_region 13 with (go_at_call 14; refine HI6.out.mono ?_; rintro e w6 ⟨g, Ls, rfl, hrws⟩; have H6 : Box (Rws wr w6 g d.n d.n d.pl Ls ∧ Below wr.heap.size wr w6) := ⟨hrws, hrws.bel⟩; clear hrws)
      have HR6 : Box (Calls Try.prog 15 #[.agg V.toArray] w6 fun e w' => ∃ v', e = .returned v' ∧ Below w6.heap.size w6 w' ∧ Rs w' v' (pls r.done d.n) ∧ ∀ k, v'.ownBlock = some k → w6.heap.size ≤ k) := ⟨by have hJl := HJ.out.l1; rw [EV.out.1, HJ.out.n]; exact rimage_any w6 d.n vd vw vo r.left r.down r.done (EV.out.2.1.below H6.out.2) (oneR EV.out.2.2.1) (oneO EV.out.2.2.2) (by omega) HN0.out.2⟩
      have HPl : Box ((pls r.done d.n).map (fun B => Value.string (strOfNums B)) = (List.range d.n).map (fun i => .string (strOfNums (d.pl i)))) := ⟨pls_r HJ.out d.n⟩
      have HP6 : Box (Pl w1 w6 DD G d r V) := ⟨HP.out.on H6.out.2⟩
      go_upto_region 14 with (first
        | (refine wpList_ldD rfl _ rfl G V rfl HP6.out.box HP6.out.v6 ?_)
        | (go_at_call 15; refine HR6.out.mono ?_; rintro e w7 ⟨vm, rfl, hb7, hs7, _⟩; have H7 : Box (Below w6.heap.size w6 w7 ∧ Sst w7 vm d.n d.pl) := ⟨hb7, by unfold Sst; rw [← HPl.out]; unfold Rs at hs7; rw [length_pls] at hs7; exact hs7⟩; clear hb7 hs7))
      obtain ⟨gm, cm, evm, _⟩ := own_at1 H7.out.2 (by have := HN0.out; omega)
      subst evm
      have him7 : Im w7 g d.n Ls d.pl := Im.fr ⟨by
        have h5 := H6.out.1.row
        rw [Nat.sub_self, show nils 0 = [] from rfl, List.append_nil] at h5
        exact h5, H6.out.1.len, fun i hi => (H6.out.1.each i hi).1, HAt.out.hpl⟩ (Fr.below H7.out.1)
      have HL2 : Box (∃ d' r' V, Pl w1 w7 DD G d' r' V ∧ J (20 + 0) d' r' ∧ d'.n = d.n ∧ Im w7 g d.n Ls d.pl ∧ Sst w7 (.slice (some ⟨gm, 0, none⟩) d.n cm) d.n d.pl) := ⟨d, r, V, HP6.out.on H7.out.1, HJ.out, rfl, him7, H7.out.2⟩
      have hcm : d.n ≤ cm := own_le H7.out.2
      clear him7 hcm H7 HP6 HPl HR6 H6 HI6 EV HAt HP HJ
      generalize d.pl = pl0 at HL2
      generalize d.n = n0 at HL2 HN0 ⊢
      go_wp2
      go_loopw [17] (fun j wr => ∃ k : Nat, k ≤ len2 ∧ k ≤ 20 ∧ j = .int .i64 k ∧ Box (∃ d r V, Pl w1 wr DD G d r V ∧ J (20 + k) d r ∧ d.n = n0 ∧ Im wr g n0 Ls pl0 ∧ Sst wr (.slice (some ⟨gm, 0, none⟩) n0 cm) n0 pl0)) (fun j _ => len2 - (intOf j).toNat)
      case atStart => exact ⟨0, Nat.zero_le _, Nat.zero_le _, rfl, HL2⟩
      case round =>
        clear HL2
        obtain ⟨kk, hkk, hkk20, rfl, HI2⟩ := hrel
        obtain ⟨d, r, V, hP, hJ, hnn, him, hss⟩ := HI2.out
        have HP : Box (Pl w1 wr DD G d r V) := ⟨hP⟩
        have HNn : Box (d.n = n0) := ⟨hnn⟩
        have HIm : Box (Im wr g n0 Ls pl0) := ⟨him⟩
        have HSs : Box (Sst wr (.slice (some ⟨gm, 0, none⟩) n0 cm) n0 pl0) := ⟨hss⟩
        clear hP hnn him hss HI2
        by_cases hlt : kk < len2
        · by_cases hlt2 : kk < 20
          · obtain ⟨k, ek⟩ : ∃ k, 20 + kk = k := ⟨_, rfl⟩
            rw [ek] at hJ
            have HJ : Box (J k d r) := ⟨hJ⟩
            obtain ⟨sb, so, kd, sl, xa, xl, xc, ka, kl, kc, sh, X, K, rfl, hE, hX, hKb, hKn, hxl, hkl, hsl⟩ := HA2.out.at_ HB1.out kk hlt
            have HE : Box (∀ w', Below w1.heap.size w1 w' → w'.rangeAt sb (so + kk * 5) (ac kd sl xa xl xc ka kl kc sh)) := ⟨hE⟩
            have HST : Box (∀ (x : World) (V : List Value) (d : Dk) (r : Rd), Cm w1 x DD d → Rv x (.agg V.toArray) r → V.length = 6 → J k d r → Calls Try.prog 12 #[.pointer (some ⟨DD, 0, none⟩), .agg V.toArray, .agg (ac kd sl xa xl xc ka kl kc sh).toArray] x fun e w' => ∃ v', e = .returned (.tuple #[v', .bool true]) ∧ Stp w1 x DD k d w' v') := ⟨fun x V d r hc hr h6 hj => step_any w1 x DD k d r V hc hr h6 hj (by omega) kd sl xa xl xc ka kl kc sh X K hX hKb hKn hxl hkl hsl⟩
            have hek : Box (20 + kk = k) := ⟨ek⟩
            clear hE hX hKb hKn hxl hkl hsl hJ ek
            go_upto_region 17 with fail
            rename_i KK ax
            try simp only [Act.put, List.setIfInBounds_toArray, List.set_cons_zero, List.set_cons_succ, List.getElem_toArray, List.getElem_cons_zero, List.getElem_cons_succ]
            refine begin_lo w1 (by kernel_rfl) (fun wd hwd => ?_)
            have GB : Box (Pl w1 wd DD G d r V ∧ J k d r) := ⟨by rw [hwd]; exact HP.out.on (Below.refl _ _).drew, HJ.out⟩
            have hfrd : Fr wr wd := by rw [hwd]; exact Fr.below ((Below.refl _ _).drew)
            have GS : Box (Below w1.heap.size w1 wd) := ⟨GB.out.1.bel⟩
            clear hwd
            refine wpAnyH_take (i := 0) (v := ?_) rfl (by kernel_rfl) (by kernel_rfl) (by kernel_rfl) (fun _ _ _ h => h) (Or.inl ⟨by rfl, ?_⟩) GS.out ?_
            rotate_left
            · intro w' hB; clear hB; go_simp <;> with_reducible rfl
            try simp only [Act.put, List.setIfInBounds_toArray, List.set_cons_zero, List.set_cons_succ, List.getElem_toArray, List.getElem_cons_zero]
            refine wpAnyH_take (i := 2) (v := ?_) rfl (by kernel_rfl) (by kernel_rfl) (by kernel_rfl) (fun _ _ _ h => h) (Or.inl ⟨by rfl, ?_⟩) GS.out ?_
            rotate_left
            · intro w' hB; clear hB; go_simp <;> with_reducible rfl
            try simp only [Act.put, List.setIfInBounds_toArray, List.set_cons_zero, List.set_cons_succ, List.getElem_toArray, List.getElem_cons_zero, List.getElem_cons_succ]
            refine wpAnyH_take (i := 3) (v := ?_) rfl (by kernel_rfl) (by kernel_rfl) (by kernel_rfl) (fun _ _ _ h => h) (Or.inl ⟨by rfl, ?_⟩) GS.out ?_
            rotate_left
            · intro w' hB; clear hB; go_simp <;> with_reducible rfl
            try simp only [Act.put, List.setIfInBounds_toArray, List.set_cons_zero, List.set_cons_succ, List.getElem_toArray, List.getElem_cons_zero, List.getElem_cons_succ]
            refine wpAnyH_take (i := 4) (v := ?_) rfl (by kernel_rfl) (by kernel_rfl) (by kernel_rfl) (fun _ _ _ h => h) (Or.inl ⟨by rfl, ?_⟩) GS.out ?_
            rotate_left
            · intro w' hB; clear hB; go_simp <;> with_reducible rfl
            try simp only [Act.put, List.setIfInBounds_toArray, List.set_cons_zero, List.set_cons_succ, List.getElem_toArray, List.getElem_cons_zero, List.getElem_cons_succ]
            refine wpAnyH_take (i := 5) (v := .agg (ac kd sl xa xl xc ka kl kc sh).toArray) rfl (by kernel_rfl) (by kernel_rfl) (by kernel_rfl) (fun _ _ _ h => h) (Or.inl ⟨by rfl, fun w' hB => exec_load_mid 39 _ _ rfl Try.underlying39 rfl sb (so + kk * 5) rfl (ac kd sl xa xl xc ka kl kc sh) infoA2 (HE.out w' hB)⟩) GS.out ?_
            try simp only [Act.put, List.setIfInBounds_toArray, List.set_cons_zero, List.set_cons_succ, List.getElem_toArray, List.getElem_cons_zero, List.getElem_cons_succ]
            refine step_kp (i := 1) rfl (by kernel_rfl) (by rfl) (fun KK hK => ?_)
            refine wp_load_row 31 _ rfl G rfl _ _ _ _ GB.out.1.box Try.underlying31 rfl (by rw [infoD]; simp [GB.out.1.v6]) ?_
            refine hK _ _ GS.out ?_
            clear hK KK
            try simp only [Act.put, List.setIfInBounds_toArray, List.set_cons_zero, List.set_cons_succ, List.getElem_toArray, List.getElem_cons_zero, List.getElem_cons_succ]
            refine step_kp (i := 6) rfl (by kernel_rfl) (by rfl) (fun KK hK => ?_)
            go_simp
            refine Calls.mono (HST.out wd V d r GB.out.1.cm GB.out.1.rv GB.out.1.v6 GB.out.2) ?_
            rintro e w4 ⟨v4, rfl, hst⟩
            obtain ⟨d', r', cm', rv', j', fr', nn'⟩ := hst
            obtain ⟨V4, rfl, hV4, ho4⟩ := rv_of rv'
            have GB4 : Box (Below w1.heap.size w1 w4 ∧ w4.heap[G]? = some (.cells V.toArray 31 (0, 0))) := ⟨by obtain ⟨fp, c⟩ := cm'; exact c.bel, (fr'.2 _ _ _ _ GB.out.1.box (by unfold Own4; decide)).trans GB.out.1.box⟩
            refine hK _ _ GB4.out.1 ?_
            clear hK KK
            try simp only [Act.put, List.setIfInBounds_toArray, List.set_cons_zero, List.set_cons_succ, List.getElem_toArray, List.getElem_cons_zero, List.getElem_cons_succ]
            refine wpAnyH_take (i := 7) (v := ?_) rfl (by kernel_rfl) (by kernel_rfl) (by kernel_rfl) (fun _ _ _ h => h) (Or.inl ⟨by rfl, ?_⟩) GB4.out.1 ?_
            rotate_left
            · intro w' hB; clear hB; go_simp <;> with_reducible rfl
            try simp only [Act.put, List.setIfInBounds_toArray, List.set_cons_zero, List.set_cons_succ, List.getElem_toArray, List.getElem_cons_zero, List.getElem_cons_succ]
            refine wpAnyH_take (i := 8) (v := ?_) rfl (by kernel_rfl) (by kernel_rfl) (by kernel_rfl) (fun _ _ _ h => h) (Or.inl ⟨by rfl, ?_⟩) GB4.out.1 ?_
            rotate_left
            · intro w' hB; clear hB; go_simp <;> with_reducible rfl
            try simp only [Act.put, List.setIfInBounds_toArray, List.set_cons_zero, List.set_cons_succ, List.getElem_toArray, List.getElem_cons_zero, List.getElem_cons_succ]
            refine wpAnyH_take (i := 9) (v := ?_) rfl (by kernel_rfl) (by kernel_rfl) (by kernel_rfl) (fun _ _ _ h => h) (Or.inl ⟨by rfl, ?_⟩) GB4.out.1 ?_
            rotate_left
            · intro w' hB; clear hB; go_simp <;> with_reducible rfl
            try simp only [Act.put, List.setIfInBounds_toArray, List.set_cons_zero, List.set_cons_succ, List.getElem_toArray, List.getElem_cons_zero, List.getElem_cons_succ]
            refine step_kp (i := 10) rfl (by kernel_rfl) (by rfl) (fun KK hK => ?_)
            refine wp_stG _ _ rfl G V4 rfl rfl ⟨_, GB4.out.2, by simp [GB.out.1.v6]⟩ hV4 ho4 ?_
            intro w5 h5 t5
            have HP5 : Box (Pl w1 w5 DD G d' r' V4 ∧ J (k + 1) d' r') := ⟨⟨h5, hV4, cm'.put GB4.out.2 HP.out.lo t5, rv'.put GB4.out.2 t5, HP.out.lo⟩, j'⟩
            refine hK _ _ HP5.out.1.bel ?_
            clear hK KK
            try simp only [Act.put, List.getElem_toArray, List.getElem_cons_zero, List.getElem_cons_succ]
            refine wpAnyH_done (by kernel_rfl) ?_ _
            show KK _ _
            refine ax _ _ ?_
            try simp only [Act.put, List.setIfInBounds_toArray, List.set_cons_zero, List.set_cons_succ, List.getElem_toArray, List.getElem_cons_zero, List.getElem_cons_succ]
            have HL3 : Box (∃ d r V, Pl w1 w5 DD G d r V ∧ J (20 + (kk + 1)) d r ∧ d.n = n0 ∧ Im w5 g n0 Ls pl0 ∧ Sst w5 (.slice (some ⟨gm, 0, none⟩) n0 cm) n0 pl0) := ⟨d', r', V4, HP5.out.1, by have := HP5.out.2; rw [← hek.out] at this; exact this, nn'.trans HNn.out, im_put ((HIm.out.fr hfrd).fr fr') GB4.out.2 t5, own_turned (fr'.own (hfrd.own HSs.out (by unfold Own4; decide)) (by unfold Own4; decide)) t5 (own_ne (fr'.own (hfrd.own HSs.out (by unfold Own4; decide)) (by unfold Own4; decide)) GB4.out.2 (by decide))⟩
            clear ax GB GS GB4 HE HST cm' rv' j' fr' nn' h5 t5 hfrd HP HNn HIm HSs HJ
            go_wp2
            go_roundw
            case rel => exact ⟨kk + 1, by omega, by omega, by simp, HL3⟩
            case measure => simp [intOf]; omega
          · obtain rfl : kk = 20 := by omega
            have HJ : Box (J 100 d r) := ⟨hJ.up (by omega)⟩
            clear hJ
            cases ct with
            | true =>
              have hn1 : 1 ≤ n0 := HN0.out.1
              have HR1 : Box (∀ (al : Option Addr) (lx cx : Nat), lx = n0 - 1 → Calls Try.prog 16 #[.pointer (some ⟨DD, 0, none⟩), .slice al lx cx] wr fun e w' => e = .returned (.int .i64 1) ∧ wr = w') := ⟨fun al lx cx hx => by
                obtain ⟨fp, c⟩ := HP.out.cm
                obtain ⟨P, uv, ov, hA, _⟩ := c.is
                exact restore_few wr DD P uv ov d hA al lx cx (by have := HNn.out; have := HN0.out; omega) (by have := HN0.out; omega)⟩
              have HR2 : Box (∀ (al : Option Addr) (lx cx : Nat), lx = n0 - 1 → Calls Try.prog 17 #[.agg V.toArray, .slice al lx cx] wr fun e w' => e = .returned (.tuple #[.agg V.toArray, .int .i64 1]) ∧ Below wr.heap.size wr w') := ⟨fun al lx cx hx => few_v HP.out.rv _ _ _ (by rw [HJ.out.n]; have := HNn.out; have := HN0.out; omega)⟩
              have HV1 : Box (V.toArray.all (·.oneCell') = true) := ⟨rv_one HP.out.rv⟩
              go_upto_region 23 with (first
                | (go_at_call 16; refine (HR1.out _ _ _ rfl).mono ?_; rintro e w' ⟨rfl, rfl⟩)
                | (refine wpList_ldD rfl _ rfl G V rfl HP.out.box HP.out.v6 ?_)
                | (go_at_call 17; refine (HR2.out _ _ _ rfl).mono ?_; rintro e w3 ⟨rfl, hb3⟩; have H3 : Box (Pl w1 w3 DD G d r V) := ⟨HP.out.on hb3⟩; clear hb3)
                | (refine wpList_run rfl _ _ (exec_alloc 31 rfl _ zeroD) ?_)
                | (refine wpList_stN rfl _ _ rfl _ V rfl rfl rfl HP.out.v6 HV1.out ?_))
              all_goals (
                have hb4 : Below w3.heap.size w3 (w3.alloc (.cells V.toArray 31)) := (Below.refl _ _).alloc (Nat.le_refl _) _
                have H4 : Box (Pl w1 (w3.alloc (.cells V.toArray 31)) DD G d r V ∧ (w3.alloc (.cells V.toArray 31)).heap[w3.heap.size]? = some (.cells V.toArray 31 (0, 0))) := ⟨H3.out.on hb4, al_at rfl⟩
                clear hb4 HR1 HR2 H3
                generalize w3.alloc (.cells V.toArray 31) = w4 at H4 ⊢
                generalize w3.heap.size = G2 at H4 ⊢
                have HSm : Box (Calls Try.prog 13 #[.pointer (some ⟨DD, 0, none⟩), .agg V.toArray] w4 fun e w' => e = .returned (.bool true) ∧ Below w4.heap.size w4 w') := ⟨same_any w1 w4 DD 100 d r _ H4.out.1.cm H4.out.1.rv HJ.out (by omega)⟩
                go_wp2_with (first
                  | (refine wpList_ldDw _ rfl G2 V rfl H4.out.2 HP.out.v6 rfl ?_)
                  | (go_at_call 13; refine HSm.out.mono ?_; rintro e w6 ⟨rfl, hb6⟩; have H6 : Box (Below w1.heap.size w1 w6) := ⟨below_to H4.out.1.bel hb6⟩; clear hb6))
                all_goals (go_ret; exact ⟨rfl, below_to HB1.out H6.out⟩))
            | false =>
              have HR : Box _ := ⟨both_restore HP.out.cm HJ.out (by omega) g n0 gm cm n0 HNn.out Ls pl0 HIm.out⟩
              go_upto_region 22 with (go_at_call 16; refine HR.out.mono ?_; rintro e w2 ⟨d', r', rfl, cm', fr', j', hr⟩; have H2 : Box (Cm w1 w2 DD d' ∧ Fr wr w2 ∧ J 5000 d' r') := ⟨cm', fr', j'⟩; have HRf : Box _ := ⟨hr⟩; clear cm' fr' j' hr)
              have H2b : Box (w2.heap[G]? = some (.cells V.toArray 31 (0, 0)) ∧ Rv w2 (.agg V.toArray) r ∧ Sst w2 (.slice (some ⟨gm, 0, none⟩) n0 cm) n0 pl0) := ⟨(H2.out.2.1.2 _ _ _ _ HP.out.box (by unfold Own4; decide)).trans HP.out.box, HP.out.rv.fr H2.out.2.1, H2.out.2.1.own HSs.out (by unfold Own4; decide)⟩
              go_upto_region 23 with (first
                | (refine wpList_ldD rfl _ rfl G V rfl H2b.out.1 HP.out.v6 ?_)
                | (go_at_call 17; refine (HRf.out w2 _ H2b.out.2.1 H2b.out.2.2).mono ?_; rintro e w3 ⟨v3, rfl, hv3, hb3⟩; obtain ⟨V3, rfl, hV3, ho3⟩ := rv_of hv3; have H3 : Box (Cm w1 w3 DD d' ∧ Rv w3 (.agg V3.toArray) r' ∧ V3.length = 6 ∧ V3.toArray.all (·.oneCell') = true) := ⟨H2.out.1.step hb3, hv3, hV3, ho3⟩; clear hv3 hb3 hV3 ho3)
                | (refine wpList_run rfl _ _ (exec_alloc 31 rfl _ zeroD) ?_)
                | (refine wpList_stN rfl _ _ rfl _ V3 rfl rfl rfl H3.out.2.2.1 H3.out.2.2.2 ?_))
              have hb4 : Below w3.heap.size w3 (w3.alloc (.cells V3.toArray 31)) := (Below.refl _ _).alloc (Nat.le_refl _) _
              have H4 : Box (Cm w1 (w3.alloc (.cells V3.toArray 31)) DD d' ∧ Rv (w3.alloc (.cells V3.toArray 31)) (.agg V3.toArray) r' ∧ (w3.alloc (.cells V3.toArray 31)).heap[w3.heap.size]? = some (.cells V3.toArray 31 (0, 0))) := ⟨H3.out.1.step hb4, H3.out.2.1.below hb4, al_at rfl⟩
              clear hb4 HR HRf
              generalize w3.alloc (.cells V3.toArray 31) = w4 at H4 ⊢
              generalize w3.heap.size = G2 at H4 ⊢
              have HSm : Box (Calls Try.prog 13 #[.pointer (some ⟨DD, 0, none⟩), .agg V3.toArray] w4 fun e w' => e = .returned (.bool true) ∧ Below w4.heap.size w4 w') := ⟨same_any w1 w4 DD 5000 d' r' _ H4.out.1 H4.out.2.1 H2.out.2.2 (by omega)⟩
              have HB4 : Box (Below w1.heap.size w1 w4) := ⟨by obtain ⟨fp, c⟩ := H4.out.1; exact c.bel⟩
              go_wp2_with (first
                | (refine wpList_ldDw _ rfl G2 V3 rfl H4.out.2.2 H3.out.2.2.1 rfl ?_)
                | (go_at_call 13; refine HSm.out.mono ?_; rintro e w6 ⟨rfl, hb6⟩; have H6 : Box (Below w1.heap.size w1 w6) := ⟨below_to HB4.out hb6⟩; clear hb6))
              go_ret
              exact ⟨rfl, below_to HB1.out H6.out⟩
        · obtain rfl : kk = len2 := by omega
          have HJ : Box (J 100 d r) := ⟨hJ.up (by omega)⟩
          clear hJ
          cases ct with
          | true =>
            have hn1 : 1 ≤ n0 := HN0.out.1
            have HR1 : Box (∀ (al : Option Addr) (lx cx : Nat), lx = n0 - 1 → Calls Try.prog 16 #[.pointer (some ⟨DD, 0, none⟩), .slice al lx cx] wr fun e w' => e = .returned (.int .i64 1) ∧ wr = w') := ⟨fun al lx cx hx => by
              obtain ⟨fp, c⟩ := HP.out.cm
              obtain ⟨P, uv, ov, hA, _⟩ := c.is
              exact restore_few wr DD P uv ov d hA al lx cx (by have := HNn.out; have := HN0.out; omega) (by have := HN0.out; omega)⟩
            have HR2 : Box (∀ (al : Option Addr) (lx cx : Nat), lx = n0 - 1 → Calls Try.prog 17 #[.agg V.toArray, .slice al lx cx] wr fun e w' => e = .returned (.tuple #[.agg V.toArray, .int .i64 1]) ∧ Below wr.heap.size wr w') := ⟨fun al lx cx hx => few_v HP.out.rv _ _ _ (by rw [HJ.out.n]; have := HNn.out; have := HN0.out; omega)⟩
            have HV1 : Box (V.toArray.all (·.oneCell') = true) := ⟨rv_one HP.out.rv⟩
            go_upto_region 23 with (first
              | (go_at_call 16; refine (HR1.out _ _ _ rfl).mono ?_; rintro e w' ⟨rfl, rfl⟩)
              | (refine wpList_ldD rfl _ rfl G V rfl HP.out.box HP.out.v6 ?_)
              | (go_at_call 17; refine (HR2.out _ _ _ rfl).mono ?_; rintro e w3 ⟨rfl, hb3⟩; have H3 : Box (Pl w1 w3 DD G d r V) := ⟨HP.out.on hb3⟩; clear hb3)
              | (refine wpList_run rfl _ _ (exec_alloc 31 rfl _ zeroD) ?_)
              | (refine wpList_stN rfl _ _ rfl _ V rfl rfl rfl HP.out.v6 HV1.out ?_))
            all_goals (
              have hb4 : Below w3.heap.size w3 (w3.alloc (.cells V.toArray 31)) := (Below.refl _ _).alloc (Nat.le_refl _) _
              have H4 : Box (Pl w1 (w3.alloc (.cells V.toArray 31)) DD G d r V ∧ (w3.alloc (.cells V.toArray 31)).heap[w3.heap.size]? = some (.cells V.toArray 31 (0, 0))) := ⟨H3.out.on hb4, al_at rfl⟩
              clear hb4 HR1 HR2 H3
              generalize w3.alloc (.cells V.toArray 31) = w4 at H4 ⊢
              generalize w3.heap.size = G2 at H4 ⊢
              have HSm : Box (Calls Try.prog 13 #[.pointer (some ⟨DD, 0, none⟩), .agg V.toArray] w4 fun e w' => e = .returned (.bool true) ∧ Below w4.heap.size w4 w') := ⟨same_any w1 w4 DD 100 d r _ H4.out.1.cm H4.out.1.rv HJ.out (by omega)⟩
              go_wp2_with (first
                | (refine wpList_ldDw _ rfl G2 V rfl H4.out.2 HP.out.v6 rfl ?_)
                | (go_at_call 13; refine HSm.out.mono ?_; rintro e w6 ⟨rfl, hb6⟩; have H6 : Box (Below w1.heap.size w1 w6) := ⟨below_to H4.out.1.bel hb6⟩; clear hb6))
              all_goals (go_ret; exact ⟨rfl, below_to HB1.out H6.out⟩))
          | false =>
            have HR : Box _ := ⟨both_restore HP.out.cm HJ.out (by omega) g n0 gm cm n0 HNn.out Ls pl0 HIm.out⟩
            go_upto_region 22 with (go_at_call 16; refine HR.out.mono ?_; rintro e w2 ⟨d', r', rfl, cm', fr', j', hr⟩; have H2 : Box (Cm w1 w2 DD d' ∧ Fr wr w2 ∧ J 5000 d' r') := ⟨cm', fr', j'⟩; have HRf : Box _ := ⟨hr⟩; clear cm' fr' j' hr)
            have H2b : Box (w2.heap[G]? = some (.cells V.toArray 31 (0, 0)) ∧ Rv w2 (.agg V.toArray) r ∧ Sst w2 (.slice (some ⟨gm, 0, none⟩) n0 cm) n0 pl0) := ⟨(H2.out.2.1.2 _ _ _ _ HP.out.box (by unfold Own4; decide)).trans HP.out.box, HP.out.rv.fr H2.out.2.1, H2.out.2.1.own HSs.out (by unfold Own4; decide)⟩
            go_upto_region 23 with (first
              | (refine wpList_ldD rfl _ rfl G V rfl H2b.out.1 HP.out.v6 ?_)
              | (go_at_call 17; refine (HRf.out w2 _ H2b.out.2.1 H2b.out.2.2).mono ?_; rintro e w3 ⟨v3, rfl, hv3, hb3⟩; obtain ⟨V3, rfl, hV3, ho3⟩ := rv_of hv3; have H3 : Box (Cm w1 w3 DD d' ∧ Rv w3 (.agg V3.toArray) r' ∧ V3.length = 6 ∧ V3.toArray.all (·.oneCell') = true) := ⟨H2.out.1.step hb3, hv3, hV3, ho3⟩; clear hv3 hb3 hV3 ho3)
              | (refine wpList_run rfl _ _ (exec_alloc 31 rfl _ zeroD) ?_)
              | (refine wpList_stN rfl _ _ rfl _ V3 rfl rfl rfl H3.out.2.2.1 H3.out.2.2.2 ?_))
            have hb4 : Below w3.heap.size w3 (w3.alloc (.cells V3.toArray 31)) := (Below.refl _ _).alloc (Nat.le_refl _) _
            have H4 : Box (Cm w1 (w3.alloc (.cells V3.toArray 31)) DD d' ∧ Rv (w3.alloc (.cells V3.toArray 31)) (.agg V3.toArray) r' ∧ (w3.alloc (.cells V3.toArray 31)).heap[w3.heap.size]? = some (.cells V3.toArray 31 (0, 0))) := ⟨H3.out.1.step hb4, H3.out.2.1.below hb4, al_at rfl⟩
            clear hb4 HR HRf
            generalize w3.alloc (.cells V3.toArray 31) = w4 at H4 ⊢
            generalize w3.heap.size = G2 at H4 ⊢
            have HSm : Box (Calls Try.prog 13 #[.pointer (some ⟨DD, 0, none⟩), .agg V3.toArray] w4 fun e w' => e = .returned (.bool true) ∧ Below w4.heap.size w4 w') := ⟨same_any w1 w4 DD 5000 d' r' _ H4.out.1 H4.out.2.1 H2.out.2.2 (by omega)⟩
            have HB4 : Box (Below w1.heap.size w1 w4) := ⟨by obtain ⟨fp, c⟩ := H4.out.1; exact c.bel⟩
            go_wp2_with (first
              | (refine wpList_ldDw _ rfl G2 V3 rfl H4.out.2.2 H3.out.2.2.1 rfl ?_)
              | (go_at_call 13; refine HSm.out.mono ?_; rintro e w6 ⟨rfl, hb6⟩; have H6 : Box (Below w1.heap.size w1 w6) := ⟨below_to HB4.out hb6⟩; clear hb6))
            go_ret
            exact ⟨rfl, below_to HB1.out H6.out⟩
theorem diskImages_walk (n : Int) (a : Option Addr) (len cap : Nat) (a2 : Option Addr) (len2 cap2 : Nat) (ct : Bool) (w : World) (hn : (Lit.int .u8 n).wf = true) (hA : Acts w a len) (hA2 : Acts w a2 len2) :
    Calls Try.prog 4 #[.int .u8 n, .slice a len cap, .slice a2 len2 cap2, .bool ct] w fun e w' => e = .returned (.bool true) ∧ Below w.heap.size w w' := by
  have h := bounds_u8 hn
  exact images_in n (n % 6).toNat a len cap a2 len2 cap2 ct w h (by omega) hA hA2
end Go.Proofs.Ytlokhbkjkobmaaa
