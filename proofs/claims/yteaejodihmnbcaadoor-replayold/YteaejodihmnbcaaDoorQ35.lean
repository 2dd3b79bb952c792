/-
  What Put of the reference answers: a row of blocks, rising, with one more, or with it anew.
-/
import Derived.Deep.QuietTactic
import Derived.BigQuiet
import Derived.Test.YteaejodihmnbcaaDoorQ33
import Derived.Test.YteaejodihmnbcaaDoorQ34
namespace Go.Proofs.YteaejodihmnbcaaDoor
set_option maxRecDepth 100000
set_option linter.unusedVariables false
open Go.RowKit Plain
attribute [local go_sem] Oper.semAt_some
theorem ins_cut (x : Int × List Int) : ∀ (P : List (Int × List Int)) (q : Nat), q ≤ P.length → (∀ i (h : i < P.length), i < q → P[i].1 < x.1) → (∀ h : q < P.length, ¬ P[q].1 < x.1) → ∀ q', (∀ h : q < P.length, q' = if P[q].1 = x.1 then q + 1 else q) → (q = P.length → q' = q) → insP P x = P.take q ++ x :: P.drop q'
  | [], q, hq, _, _, q', _, h2 => by
    have e : q = 0 := by simpa using hq
    subst e
    simp [insP]
  | y :: P, 0, _, _, h0, q', h1, _ => by
    have h0' := h0 (by simp)
    have h1' := h1 (by simp)
    simp only [List.getElem_cons_zero] at h0' h1'
    rw [insP, if_neg h0']
    by_cases e : y.1 = x.1
    · rw [if_pos e] at h1' ⊢
      rw [h1']
      simp
    · rw [if_neg e] at h1' ⊢
      rw [h1']
      simp
  | y :: P, q + 1, hq, hl, h0, q', h1, h2 => by
    have hy : y.1 < x.1 := hl 0 (by simp) (by omega)
    have hq' : q ≤ P.length := by simpa using hq
    obtain ⟨p, rfl⟩ : ∃ p, q' = p + 1 := by
      by_cases hlt : q < P.length
      · have := h1 (by simpa using hlt)
        split at this <;> exact ⟨q' - 1, by omega⟩
      · have := h2 (by simp; omega)
        exact ⟨q, this⟩
    have ih := ins_cut x P q hq' (fun i hi hiq => by have := hl (i + 1) (by simpa using hi) (by omega); simpa using this) (fun h => by have := h0 (by simpa using h); simpa using this) p (fun h => by
      have := h1 (by simpa using h)
      simp only [List.getElem_cons_succ] at this
      split at this
      · rename_i e; rw [if_pos e]; omega
      · rename_i e; rw [if_neg e]; omega) (fun e => by have := h2 (by simp [e]); omega)
    rw [insP, if_pos hy, ih]
    simp
theorem infI2 : (Tryd.prog.info? 60).map (fun i => (i.zero, i.size, i.bytes)) = some (some (.agg #[.int .u64 0, .string (strOfNums [])]), 2, 24) := by kernel_rfl
theorem islice_hi (a : Option Addr) (len cap n : Nat) (hn : n ≤ len) (hc : len ≤ cap) : ∃ a', (∀ x, (Instr.sliceAt 26 (.slice a len cap) none (some (.int .i64 (n : Int))) none).run Tryd.prog x = .ok (.slice a' n cap) x) ∧ ∀ x (P : List (Int × List Int)), P.length = len → Tb x a 2 ic P → Tb x a' 2 ic (P.take n) := by
  refine ⟨if cap = 0 then a else a.map (·.add (0 * 2)), fun x => ?_, fun x P hP hB hp => ?_⟩
  · have hu : Tryd.prog.underlying 26 = some (.slice (Tryd.prog.elem 26)) := by kernel_rfl
    rw [run_sliceAt_slice (P := Tryd.prog) x 26 _ _ _ _ hu, run_slice_h (P := Tryd.prog) x 26 a len cap hu .i64 (n : Int) (by omega) (by omega)]
    have hs : (sizeOf (Tryd.prog.elem 26)).run Tryd.prog x = .ok 2 x := by kernel_rfl
    rw [hs, Result.andThen_ok, sliced]
    simp
  · simp only [List.length_take] at hp
    obtain ⟨b, off, rfl, hlt, hcl⟩ := hB (by omega)
    rw [if_neg (by omega)]
    refine ⟨b, off, by simp [Addr.add_mid], hlt, fun i hi => ?_⟩
    have hi2 : i < P.length := by simp at hi; omega
    have := hcl i hi2
    simpa using this
theorem islice_lo (a : Option Addr) (len cap n : Nat) (hn : n ≤ len) (hc : len ≤ cap) : ∃ a', (∀ x, (Instr.sliceAt 26 (.slice a len cap) (some (.int .i64 (n : Int))) none none).run Tryd.prog x = .ok (.slice a' (len - n) (cap - n)) x) ∧ ∀ x (P : List (Int × List Int)), P.length = len → Tb x a 2 ic P → Tb x a' 2 ic (P.drop n) := by
  refine ⟨if cap = n then a else a.map (·.add (n * 2)), fun x => ?_, fun x P hP hB hp => ?_⟩
  · have hu : Tryd.prog.underlying 26 = some (.slice (Tryd.prog.elem 26)) := by kernel_rfl
    rw [run_sliceAt_slice (P := Tryd.prog) x 26 _ _ _ _ hu, run_slice_l (P := Tryd.prog) x 26 a len cap hu .i64 (n : Int) (by omega) (by omega)]
    have hs : (sizeOf (Tryd.prog.elem 26)).run Tryd.prog x = .ok 2 x := by kernel_rfl
    rw [hs, Result.andThen_ok, sliced]
    simp
  · simp only [List.length_drop] at hp
    obtain ⟨b, off, rfl, hlt, hcl⟩ := hB (by omega)
    rw [if_neg (by omega)]
    refine ⟨b, off + n * 2, by simp [Addr.add_mid], hlt, fun i hi => ?_⟩
    have hi2 : n + i < P.length := by simp at hi; omega
    have := hcl (n + i) hi2
    rw [show off + n * 2 + i * 2 = off + (n + i) * 2 by omega]
    simpa using this
/-- Nothing appended, out of a slice that is nil. -/
theorem run_appendI_none {w : World} {base n c : Nat} {v : Value} {xs : List Value} {ty : TypeId} (h : w.ownsRow base 60 2 v n xs) : (Builtin.append_ #[26, 26] ty #[v, .slice none 0 c]).run Tryd.prog w = .ok v w := by
  obtain ⟨i0, hi, hz0, hz1, hz2⟩ := info_parts infI2
  rcases h.2 with ⟨rfl, rfl⟩ | ⟨g, cap', cur, rfl, _, _, hle, _⟩
  · simp [Builtin.append_, run_underlying Tryd.underlying26, sizeOf, typeInfo, hi, Builtin.lenOf, Builtin.firstCells]
  · simp [Builtin.append_, run_underlying Tryd.underlying26, sizeOf, typeInfo, hi, Builtin.lenOf, Builtin.firstCells, hle, storeCells]
/-- A slice's images appended to a row of one's own. -/
theorem wpList_appI {ops : Array Oper} {rest : List Oper} {o : Oper} {act : Act} {w : World} {Q : Exit → Act → World → Prop} (hgd : o.guard = none) (s x : Operand)
    (ho : o.op = .call { callee := .builtin .append, args := #[s, x], argTypes := #[26, 26] }) (base n m c : Nat) (v : Value) (xs : List Value) (P : List (Int × List Int)) (a : Option Addr)
    (hs : act.eval s = v) (hx : act.eval x = .slice a m c) (hown : w.ownsRow base 60 2 v n xs) (hb : Tb w a 2 ic P) (hP : P.length = m) (hl : n + m ≤ 1000000) (hbase : base ≤ w.heap.size)
    (h : ∀ v' w', w'.ownsRow base 60 2 v' (n + m) (xs ++ (P.map ic).flatten) → w.grownBy w' v.ownBlock → wpList Tryd.prog ops Q rest (act.put o.dst v') w') : wpList Tryd.prog ops Q (o :: rest) act w := by
  obtain ⟨i0, hi, hz0, hz1, hz2⟩ := info_parts infI2
  cases a with
  | none =>
    have hm : m = 0 := by
      by_cases hm : m = 0
      · exact hm
      · obtain ⟨_, _, he, _⟩ := hb (by omega)
        cases he
    subst hm
    obtain rfl : P = [] := List.eq_nil_of_length_eq_zero hP
    refine wpList_plain hgd fun _ hK => ?_
    unfold Oper.wp execOp
    simp only [ho, resolve, invoke, builtin, Sem.run_bind, Sem.run_pure, Result.andThen_ok, List.map_toArray, List.map_cons, List.map_nil, hs, hx, run_appendI_none hown]
    exact hK _ _ (h v w (by simpa using hown) (World.grownBy.refl w v.ownBlock))
  | some ad =>
    have hnews : ∀ j u, ((P.map ic).flatten)[j]? = some u → w.cell? (ad.add j) = some u := by
      intro j u hj
      have hjl := (List.getElem?_eq_some_iff.1 hj).1
      rw [flat_len ic 2 (fun _ => rfl)] at hjl
      have hp : 0 < P.length := by omega
      obtain ⟨b, off, he, _, hcl⟩ := hb hp
      cases he
      have hi2 : j / 2 < P.length := by omega
      have e := flat_get ic 2 (fun _ => rfl) P (j / 2) hi2 (j % 2) (by omega)
      rw [show j / 2 * 2 + j % 2 = j by omega] at e
      rw [e] at hj
      have := hcl (j / 2) hi2 (j % 2) u hj
      rw [Addr.add_lit, show off + j = off + j / 2 * 2 + j % 2 by omega]
      exact this
    refine wpList_append_own w hgd s x 26 ho base 60 i0 _ 2 24 Tryd.underlying26 hi hz0 hz1 hz2 rfl (by decide) v n _ hs hown ad m c ((P.map ic).flatten) hx (by rw [flat_len ic 2 (fun _ => rfl), hP]) hnews (one_flat ic one_ic P) (by unfold maxLen; omega) (by omega) hbase ?_
    intro v' w' h1 h2 _
    exact h v' w' h1 h2
/-- Where the walk stands. -/
structure PuK (w wr : World) (S : Nat) (x : Int × List Int) : Prop where
  row : wr.heap[S]? = some (.cells (ic x).toArray 60 (0, 0))
  bel : Below w.heap.size w wr
theorem infoI2 : (Tryd.prog.info? 60).map (·.size) = some 2 := by kernel_rfl
set_option maxHeartbeats 8000000 in
theorem rput14_any (a : Option Addr) (cap : Nat) (P : List (Int × List Int)) (x : Int × List Int) (w : World) (h : Tb w a 2 ic P) (hl : P.length ≤ 1000) (hc : P.length ≤ cap) :
    Calls Tryd.prog 20 #[.slice a P.length cap, .agg (ic x).toArray] w fun e w' => ∃ v, e = .returned v ∧ w'.ownsRow w.heap.size 60 2 v (insP P x).length ((insP P x).map ic).flatten ∧ Below w.heap.size w w' := by
  obtain ⟨S, hS⟩ : ∃ S, w.heap.size = S := ⟨_, rfl⟩
  obtain ⟨w1, hw1⟩ : ∃ w1, w.alloc (.cells (ic x).toArray 60) = w1 := ⟨_, rfl⟩
  have H0 : Box (PuK w w1 S x) := ⟨⟨by rw [← hw1]; exact al_at hS, by rw [← hw1]; exact (Below.refl _ _).alloc (Nat.le_refl _) _⟩⟩
  have HTB : Box (∀ y, Below w.heap.size w y → Tb y a 2 ic P) := ⟨fun y hy => h.below hy⟩
  obtain ⟨n, hn⟩ : ∃ n, P.length = n := ⟨_, rfl⟩
  have HN : Box (P.length = n ∧ n ≤ 1000 ∧ n ≤ cap) := ⟨hn, by omega, by omega⟩
  have HSS : Box (w.heap.size = S) := ⟨hS⟩
  obtain ⟨xb, xs⟩ := x
  obtain ⟨sx, hsx⟩ : ∃ s, strOfNums xs = s := ⟨_, rfl⟩
  have HSX : Box (strOfNums xs = sx) := ⟨hsx⟩
  rw [hn]
  simp only [ic, hsx] at hw1 ⊢
  clear h hl hc hn hS hsx
  go_enter Tryd.func20, Tryd.ntmps20
  go_upto_region 1 with fail
  (try simp only [HSS.out])
  (try rw [hw1])
  clear hw1
  go_wp2
  go_loopw [5] (fun i wr => ∃ k : Nat, k ≤ n ∧ i = .int .i64 (k : Int) ∧ Box (PuK w wr S (xb, xs) ∧ ∀ i (h : i < P.length), i < k → P[i].1 < xb)) (fun i _ => n - (intOf i).toNat)
  case atStart => exact ⟨0, Nat.zero_le _, rfl, ⟨H0.out, fun i _ hi => absurd hi (Nat.not_lt_zero i)⟩⟩
  case round =>
    clear H0
    obtain ⟨k, hk, rfl, HG⟩ := hrel
    have cx : wr.cell? ⟨S, 0, none⟩ = some (.int .u64 xb) := by rw [cell_of_row _ _ _ _ _ _ HG.out.1.row]; rfl
    have HNW : Box (∀ m, PuK w (wr.drewN m) S (xb, xs)) := ⟨fun m => ⟨HG.out.1.row, below_drewN HG.out.1.bel m⟩⟩
    by_cases hlt : k < n ∧ ∀ hk : k < P.length, P[k].1 < xb
    · obtain ⟨hlt, hpk⟩ := hlt
      have hkP : k < P.length := by rw [HN.out.1]; exact hlt
      have hpk := hpk hkP
      obtain ⟨b, o, hae, hbl, hr⟩ := HTB.out wr HG.out.1.bel (by omega)
      subst hae
      have hrk := hr k hkP
      have HST : Box (∀ i (h : i < P.length), i < k + 1 → P[i].1 < xb) := ⟨fun i h hi => by
        by_cases e : i = k
        · subst e; exact hpk
        · exact HG.out.2 i h (by omega)⟩
      obtain ⟨⟨pb, ps⟩, hpp⟩ : ∃ p, P[k] = p := ⟨_, rfl⟩
      rw [hpp] at hrk hpk
      dsimp only at hpk
      have c0 : wr.cell? ⟨b, o + k * 2, none⟩ = some (.int .u64 pb) := hrk 0 _ rfl
      have hd1 : decide (k < n) = true := by simpa using hlt
      have hd2 : decide (pb < xb) = true := by simpa using hpk
      have hd3 : decide ((k : Int) < (n : Int)) = true := by simp; omega
      have hw4 : IntKind.i64.wrap ((k : Int) + 1) = ((k + 1 : Nat) : Int) := by have := HN.out.2.1; rw [IntKind.wrap_i64]; omega
      clear hrk hr hpp hbl
      go_upto_region 2 with fail
      go_quiet (fail)
      obtain ⟨x2, hx2⟩ : ∃ x2, wr.drewN nq = x2 := ⟨_, rfl⟩
      have H2 : Box (PuK w x2 S (xb, xs)) := ⟨by rw [← hx2]; exact HNW.out nq⟩
      rw [hx2]
      clear hx2
      go_wp2
      go_roundw
      case rel => exact ⟨k + 1, by omega, by go_num, ⟨H2.out, HST.out⟩⟩
      case measure => simp [intOf]; omega
    · by_cases hkn : k < n
      · have hkP : k < P.length := by rw [HN.out.1]; exact hkn
        have hpk : ¬ P[k].1 < xb := fun e => hlt ⟨hkn, fun _ => e⟩
        obtain ⟨b, o, hae, hbl, hr⟩ := HTB.out wr HG.out.1.bel (by omega)
        obtain ⟨A0, hA0⟩ : ∃ A0, a = A0 := ⟨_, rfl⟩
        have hrk := hr k hkP
        have HRK : Box (∀ y, Below w.heap.size w y → y.cell? ⟨b, o + k * 2, none⟩ = some (.int .u64 P[k].1)) := ⟨fun y hy => by
          obtain ⟨b', o', hae', _, hr'⟩ := HTB.out y hy (by omega)
          rw [hae] at hae'
          cases hae'
          exact hr' k hkP 0 _ rfl⟩
        have hcutF := ins_cut (xb, xs) P k (by omega) (fun i h hi => HG.out.2 i h hi) (fun _ => hpk)
        have hpk2 : decide (P[k].1 < xb) = false := by simpa using hpk
        have hd1 : decide (k < n) = true := by simpa using hkn
        have hd3 : decide ((k : Int) < (n : Int)) = true := by simp; omega
        by_cases heq : P[k].1 = xb
        · have HCUT : Box (insP P (xb, xs) = P.take k ++ (xb, xs) :: P.drop (k + 1)) := ⟨hcutF (k + 1) (fun _ => by rw [if_pos heq]) (fun e => by omega)⟩
          obtain ⟨pb, hpb⟩ : ∃ p, P[k].1 = p := ⟨_, rfl⟩
          rw [hpb] at HRK hpk2 heq
          have c0 : wr.cell? ⟨b, o + k * 2, none⟩ = some (.int .u64 pb) := HRK.out wr HG.out.1.bel
          have heq2 : (pb == xb) = true := by simpa using heq
          have hw4 : IntKind.i64.wrap ((k : Int) + 1) = ((k + 1 : Nat) : Int) := by have := HN.out.2.1; rw [IntKind.wrap_i64]; omega
          have HEB : Box (pb = xb) := ⟨heq⟩
          clear hr hrk hcutF hpk hlt heq hpb HG
          clear hA0 A0
          subst hae
          go_upto_region 2 with fail
          go_quiet (fail)
          clear c0
          have hwk : Box (P.length = n ∧ n ≤ 1000 ∧ k ≤ n ∧ k + 1 ≤ n ∧ n ≤ cap) := ⟨HN.out.1, HN.out.2.1, hk, by omega, HN.out.2.2⟩
          obtain ⟨a1, hs1, ht1⟩ := islice_hi (some ⟨b, o, none⟩) n cap k hk HN.out.2.2
          obtain ⟨a2, hs2, ht2⟩ := islice_lo (some ⟨b, o, none⟩) n cap (k + 1) (by omega) HN.out.2.2
          have HS1 : Box (∀ x, (Instr.sliceAt 26 (.slice (some ⟨b, o, none⟩) n cap) none (some (.int .i64 (k : Int))) none).run Tryd.prog x = .ok (.slice a1 k cap) x) := ⟨hs1⟩
          have HS2 : Box (∀ x, (Instr.sliceAt 26 (.slice (some ⟨b, o, none⟩) n cap) (some (.int .i64 ((k + 1 : Nat) : Int))) none none).run Tryd.prog x = .ok (.slice a2 (n - (k + 1)) (cap - (k + 1))) x) := ⟨hs2⟩
          have HT1 : Box (∀ y, Below w.heap.size w y → Tb y a1 2 ic (P.take k) ∧ Tb y a2 2 ic (P.drop (k + 1))) := ⟨fun y hy => ⟨ht1 y P HN.out.1 (HTB.out y hy), ht2 y P HN.out.1 (HTB.out y hy)⟩⟩
          clear hs1 hs2 ht1 ht2
          obtain ⟨x2, hx2⟩ : ∃ x2, wr.drewN nq = x2 := ⟨_, rfl⟩
          have H2 : Box (PuK w x2 S (xb, xs)) := ⟨by rw [← hx2]; exact HNW.out nq⟩
          rw [hx2]
          have HX2 : Box (x2.rangeAt S 0 [.int .u64 xb, .string sx] ∧ S + 1 ≤ x2.heap.size ∧ Tb x2 a1 2 ic (P.take k)) := ⟨by
            have hr := H2.out.row
            simp only [ic, HSX.out] at hr
            exact ⟨range_arr hr _ (fun j v hv => by simpa using hv), (Array.getElem?_eq_some_iff.1 hr).1, (HT1.out x2 H2.out.bel).1⟩⟩
          have HLP : Box ((P.take k).length = k ∧ (P.drop (k + 1)).length = n - (k + 1) ∧ 0 + k ≤ 1000000 ∧ 0 + k + 1 + (n - (k + 1)) ≤ 1000000) := ⟨by rw [List.length_take, HN.out.1]; omega, by rw [List.length_drop, HN.out.1], by have := hwk.out; omega, by have := hwk.out; omega⟩
          clear hx2
          go_upto_region 6 with (first
            | (refine atSlice 26 ?_; refine wpList_run rfl _ _ (exec_slice 26 (.tmp 24) none (some (.tmp 25)) rfl _ (HS1.out _)) ?_)
            | (at_builtin; refine wpList_appI rfl (.tmp 23) (.tmp 26) rfl (S + 1) 0 k cap (.slice none 0 0) [] (P.take k) a1 rfl rfl (World.ownsRow_nil _ _ _ _) HX2.out.2.2 HLP.out.1 HLP.out.2.2.1 HX2.out.2.1 ?_; intro v3 x3 q1 q2; have H3 : Box (x3.ownsRow (S + 1) 60 2 v3 (0 + k) ([] ++ ((P.take k).map ic).flatten) ∧ x2.grownBy x3 none) := ⟨q1, q2⟩; clear q1 q2))
          have HX3 : Box (x3.rangeAt S 0 [.int .u64 xb, .string sx] ∧ S + 1 ≤ x3.heap.size ∧ Below w.heap.size w x3) := ⟨by
            have hb : Below x2.heap.size x2 x3 := (Below.refl _ _).grown H3.out.2 (Nat.le_refl _) (fun j hj => by cases hj)
            refine ⟨fun i v hv => (hb.cell (show S < x2.heap.size by have := HX2.out.2.1; omega)).trans (HX2.out.1 i v hv), by have := hb.size; have := HX2.out.2.1; omega, below_to H2.out.bel hb⟩⟩
          go_upto_region 7 with (first
            | (refine atLoad 60 ?_; refine wpList_ldMid rfl 60 _ _ rfl Tryd.underlying60 rfl S 0 rfl [.int .u64 xb, .string sx] infoI2 HX3.out.1 ?_)
            | (at_builtin; refine wpList_appR 26 60 Tryd.underlying26 2 24 _ infI2 rfl (by decide) rfl (.tmp 28) (.tmp 30) rfl (S + 1) (0 + k) v3 ([] ++ ((P.take k).map ic).flatten) [.int .u64 xb, .string sx] x3 rfl rfl rfl H3.out.1 rfl (by simp [Value.oneCell']) HLP.out.2.2.1 (by decide) (by decide) HX3.out.2.1 ?_; intro v4 x4 q1 q2; have H4 : Box (x4.ownsRow (S + 1) 60 2 v4 (0 + k + 1) (([] ++ ((P.take k).map ic).flatten) ++ [.int .u64 xb, .string sx]) ∧ x3.grownBy x4 v3.ownBlock) := ⟨q1, q2⟩; clear q1 q2))
          have HX4 : Box (x4.cell? ⟨S, 0, none⟩ = some (.int .u64 xb) ∧ S + 1 ≤ x4.heap.size ∧ Below w.heap.size w x4) := ⟨by
            have hne : ∀ j, v3.ownBlock = some j → S + 1 ≤ j := fun j hj => (own_blk H3.out.1 j hj).1
            have hb : Below (S + 1) x3 x4 := (Below.refl _ _).grown H4.out.2 HX3.out.2.1 hne
            refine ⟨(hb.cell (show S < S + 1 by omega)).trans (HX3.out.1 0 _ rfl), by have := hb.size; have := HX3.out.2.1; omega, HX3.out.2.2.grown H4.out.2 HX3.out.2.2.size (fun j hj => by have := hne j hj; have := HSS.out; omega)⟩⟩
          have cx4 := HX4.out.1
          have c4 : x4.cell? ⟨b, o + k * 2, none⟩ = some (.int .u64 pb) := HRK.out x4 HX4.out.2.2
          clear cx
          go_quiet (fail)
          obtain ⟨x5, hx5⟩ : ∃ x5, x4.drewN nq = x5 := ⟨_, rfl⟩
          have H5 : Box (x5.ownsRow (S + 1) 60 2 v4 (0 + k + 1) (([] ++ ((P.take k).map ic).flatten) ++ [.int .u64 xb, .string sx]) ∧ S + 1 ≤ x5.heap.size ∧ Below w.heap.size w x5) := ⟨by rw [← hx5]; exact ⟨own_to H4.out.1 (below_drewN (Below.refl _ _) _), HX4.out.2.1, below_drewN HX4.out.2.2 _⟩⟩
          rw [hx5]
          have HT5 : Box (Tb x5 a2 2 ic (P.drop (k + 1))) := ⟨(HT1.out x5 H5.out.2.2).2⟩
          clear hx5 cx4
          go_wp2_with (first
            | (refine atSlice 26 ?_; refine wpList_run rfl _ _ (exec_slice 26 (.tmp 49) (some (.tmp 50)) none rfl _ (HS2.out _)) ?_)
            | (at_builtin; refine wpList_appI rfl (.tmp 48) (.tmp 51) rfl (S + 1) (0 + k + 1) (n - (k + 1)) (cap - (k + 1)) v4 _ (P.drop (k + 1)) a2 rfl rfl H5.out.1 HT5.out HLP.out.2.1 HLP.out.2.2.2 H5.out.2.1 ?_; intro v6 x6 q1 q2; have H6 : Box (x6.ownsRow (S + 1) 60 2 v6 (0 + k + 1 + (n - (k + 1))) ((([] ++ ((P.take k).map ic).flatten) ++ [.int .u64 xb, .string sx]) ++ ((P.drop (k + 1)).map ic).flatten) ∧ x5.grownBy x6 v4.ownBlock) := ⟨q1, q2⟩; clear q1 q2))
          go_ret
          have hne : ∀ j, v4.ownBlock = some j → S + 1 ≤ j := fun j hj => (own_blk H5.out.1 j hj).1
          refine ⟨v6, rfl, ?_, H5.out.2.2.grown H6.out.2 H5.out.2.2.size (fun j hj => by have := hne j hj; have := HSS.out; omega)⟩
          have hcut := HCUT.out
          have hlen : (insP P (xb, xs)).length = 0 + k + 1 + (n - (k + 1)) := by rw [hcut, List.length_append, List.length_cons, HLP.out.1, HLP.out.2.1]; omega
          have hfl : ((insP P (xb, xs)).map ic).flatten = (([] ++ ((P.take k).map ic).flatten) ++ [.int .u64 xb, .string sx]) ++ ((P.drop (k + 1)).map ic).flatten := by
            rw [hcut]
            simp [ic, HSX.out]
          rw [hlen]
          refine own_low2 (base := S + 1) ?_ (by have := HSS.out; omega)
          have := H6.out.1
          rw [← hfl] at this
          exact this
        · have HCUT : Box (insP P (xb, xs) = P.take k ++ (xb, xs) :: P.drop k) := ⟨hcutF k (fun _ => by rw [if_neg heq]) (fun e => rfl)⟩
          obtain ⟨pb, hpb⟩ : ∃ p, P[k].1 = p := ⟨_, rfl⟩
          rw [hpb] at HRK hpk2 heq
          have c0 : wr.cell? ⟨b, o + k * 2, none⟩ = some (.int .u64 pb) := HRK.out wr HG.out.1.bel
          have heq2 : (pb == xb) = false := by simpa using heq
          clear hr hrk hcutF hpk hlt heq hpb HG
          clear hA0 A0
          subst hae
          go_upto_region 2 with fail
          go_quiet (fail)
          clear c0
          have hwk : Box (P.length = n ∧ n ≤ 1000 ∧ k ≤ n ∧ k ≤ n ∧ n ≤ cap) := ⟨HN.out.1, HN.out.2.1, hk, by omega, HN.out.2.2⟩
          obtain ⟨a1, hs1, ht1⟩ := islice_hi (some ⟨b, o, none⟩) n cap k hk HN.out.2.2
          obtain ⟨a2, hs2, ht2⟩ := islice_lo (some ⟨b, o, none⟩) n cap (k) (by omega) HN.out.2.2
          have HS1 : Box (∀ x, (Instr.sliceAt 26 (.slice (some ⟨b, o, none⟩) n cap) none (some (.int .i64 (k : Int))) none).run Tryd.prog x = .ok (.slice a1 k cap) x) := ⟨hs1⟩
          have HS2 : Box (∀ x, (Instr.sliceAt 26 (.slice (some ⟨b, o, none⟩) n cap) (some (.int .i64 ((k : Nat) : Int))) none none).run Tryd.prog x = .ok (.slice a2 (n - (k)) (cap - (k))) x) := ⟨hs2⟩
          have HT1 : Box (∀ y, Below w.heap.size w y → Tb y a1 2 ic (P.take k) ∧ Tb y a2 2 ic (P.drop (k))) := ⟨fun y hy => ⟨ht1 y P HN.out.1 (HTB.out y hy), ht2 y P HN.out.1 (HTB.out y hy)⟩⟩
          clear hs1 hs2 ht1 ht2
          obtain ⟨x2, hx2⟩ : ∃ x2, wr.drewN nq = x2 := ⟨_, rfl⟩
          have H2 : Box (PuK w x2 S (xb, xs)) := ⟨by rw [← hx2]; exact HNW.out nq⟩
          rw [hx2]
          have HX2 : Box (x2.rangeAt S 0 [.int .u64 xb, .string sx] ∧ S + 1 ≤ x2.heap.size ∧ Tb x2 a1 2 ic (P.take k)) := ⟨by
            have hr := H2.out.row
            simp only [ic, HSX.out] at hr
            exact ⟨range_arr hr _ (fun j v hv => by simpa using hv), (Array.getElem?_eq_some_iff.1 hr).1, (HT1.out x2 H2.out.bel).1⟩⟩
          have HLP : Box ((P.take k).length = k ∧ (P.drop (k)).length = n - (k) ∧ 0 + k ≤ 1000000 ∧ 0 + k + 1 + (n - (k)) ≤ 1000000) := ⟨by rw [List.length_take, HN.out.1]; omega, by rw [List.length_drop, HN.out.1], by have := hwk.out; omega, by have := hwk.out; omega⟩
          clear hx2
          go_upto_region 6 with (first
            | (refine atSlice 26 ?_; refine wpList_run rfl _ _ (exec_slice 26 (.tmp 24) none (some (.tmp 25)) rfl _ (HS1.out _)) ?_)
            | (at_builtin; refine wpList_appI rfl (.tmp 23) (.tmp 26) rfl (S + 1) 0 k cap (.slice none 0 0) [] (P.take k) a1 rfl rfl (World.ownsRow_nil _ _ _ _) HX2.out.2.2 HLP.out.1 HLP.out.2.2.1 HX2.out.2.1 ?_; intro v3 x3 q1 q2; have H3 : Box (x3.ownsRow (S + 1) 60 2 v3 (0 + k) ([] ++ ((P.take k).map ic).flatten) ∧ x2.grownBy x3 none) := ⟨q1, q2⟩; clear q1 q2))
          have HX3 : Box (x3.rangeAt S 0 [.int .u64 xb, .string sx] ∧ S + 1 ≤ x3.heap.size ∧ Below w.heap.size w x3) := ⟨by
            have hb : Below x2.heap.size x2 x3 := (Below.refl _ _).grown H3.out.2 (Nat.le_refl _) (fun j hj => by cases hj)
            refine ⟨fun i v hv => (hb.cell (show S < x2.heap.size by have := HX2.out.2.1; omega)).trans (HX2.out.1 i v hv), by have := hb.size; have := HX2.out.2.1; omega, below_to H2.out.bel hb⟩⟩
          go_upto_region 7 with (first
            | (refine atLoad 60 ?_; refine wpList_ldMid rfl 60 _ _ rfl Tryd.underlying60 rfl S 0 rfl [.int .u64 xb, .string sx] infoI2 HX3.out.1 ?_)
            | (at_builtin; refine wpList_appR 26 60 Tryd.underlying26 2 24 _ infI2 rfl (by decide) rfl (.tmp 28) (.tmp 30) rfl (S + 1) (0 + k) v3 ([] ++ ((P.take k).map ic).flatten) [.int .u64 xb, .string sx] x3 rfl rfl rfl H3.out.1 rfl (by simp [Value.oneCell']) HLP.out.2.2.1 (by decide) (by decide) HX3.out.2.1 ?_; intro v4 x4 q1 q2; have H4 : Box (x4.ownsRow (S + 1) 60 2 v4 (0 + k + 1) (([] ++ ((P.take k).map ic).flatten) ++ [.int .u64 xb, .string sx]) ∧ x3.grownBy x4 v3.ownBlock) := ⟨q1, q2⟩; clear q1 q2))
          have HX4 : Box (x4.cell? ⟨S, 0, none⟩ = some (.int .u64 xb) ∧ S + 1 ≤ x4.heap.size ∧ Below w.heap.size w x4) := ⟨by
            have hne : ∀ j, v3.ownBlock = some j → S + 1 ≤ j := fun j hj => (own_blk H3.out.1 j hj).1
            have hb : Below (S + 1) x3 x4 := (Below.refl _ _).grown H4.out.2 HX3.out.2.1 hne
            refine ⟨(hb.cell (show S < S + 1 by omega)).trans (HX3.out.1 0 _ rfl), by have := hb.size; have := HX3.out.2.1; omega, HX3.out.2.2.grown H4.out.2 HX3.out.2.2.size (fun j hj => by have := hne j hj; have := HSS.out; omega)⟩⟩
          have cx4 := HX4.out.1
          have c4 : x4.cell? ⟨b, o + k * 2, none⟩ = some (.int .u64 pb) := HRK.out x4 HX4.out.2.2
          clear cx
          go_quiet (fail)
          obtain ⟨x5, hx5⟩ : ∃ x5, x4.drewN nq = x5 := ⟨_, rfl⟩
          have H5 : Box (x5.ownsRow (S + 1) 60 2 v4 (0 + k + 1) (([] ++ ((P.take k).map ic).flatten) ++ [.int .u64 xb, .string sx]) ∧ S + 1 ≤ x5.heap.size ∧ Below w.heap.size w x5) := ⟨by rw [← hx5]; exact ⟨own_to H4.out.1 (below_drewN (Below.refl _ _) _), HX4.out.2.1, below_drewN HX4.out.2.2 _⟩⟩
          rw [hx5]
          have HT5 : Box (Tb x5 a2 2 ic (P.drop (k))) := ⟨(HT1.out x5 H5.out.2.2).2⟩
          clear hx5 cx4
          go_wp2_with (first
            | (refine atSlice 26 ?_; refine wpList_run rfl _ _ (exec_slice 26 (.tmp 49) (some (.tmp 50)) none rfl _ (HS2.out _)) ?_)
            | (at_builtin; refine wpList_appI rfl (.tmp 48) (.tmp 51) rfl (S + 1) (0 + k + 1) (n - (k)) (cap - (k)) v4 _ (P.drop (k)) a2 rfl rfl H5.out.1 HT5.out HLP.out.2.1 HLP.out.2.2.2 H5.out.2.1 ?_; intro v6 x6 q1 q2; have H6 : Box (x6.ownsRow (S + 1) 60 2 v6 (0 + k + 1 + (n - (k))) ((([] ++ ((P.take k).map ic).flatten) ++ [.int .u64 xb, .string sx]) ++ ((P.drop (k)).map ic).flatten) ∧ x5.grownBy x6 v4.ownBlock) := ⟨q1, q2⟩; clear q1 q2))
          go_ret
          have hne : ∀ j, v4.ownBlock = some j → S + 1 ≤ j := fun j hj => (own_blk H5.out.1 j hj).1
          refine ⟨v6, rfl, ?_, H5.out.2.2.grown H6.out.2 H5.out.2.2.size (fun j hj => by have := hne j hj; have := HSS.out; omega)⟩
          have hcut := HCUT.out
          have hlen : (insP P (xb, xs)).length = 0 + k + 1 + (n - (k)) := by rw [hcut, List.length_append, List.length_cons, HLP.out.1, HLP.out.2.1]; omega
          have hfl : ((insP P (xb, xs)).map ic).flatten = (([] ++ ((P.take k).map ic).flatten) ++ [.int .u64 xb, .string sx]) ++ ((P.drop (k)).map ic).flatten := by
            rw [hcut]
            simp [ic, HSX.out]
          rw [hlen]
          refine own_low2 (base := S + 1) ?_ (by have := HSS.out; omega)
          have := H6.out.1
          rw [← hfl] at this
          exact this
      · have hkn2 : k = n := by omega
        have HCUT : Box (insP P (xb, xs) = P.take k ++ (xb, xs) :: P.drop k) := ⟨ins_cut (xb, xs) P k (by rw [HN.out.1]; exact hk) (fun i h hi => HG.out.2 i h hi) (fun h => absurd h (by rw [HN.out.1]; omega)) k (fun h => absurd h (by rw [HN.out.1]; omega)) (fun _ => rfl)⟩
        have hd1 : decide (k < n) = false := by simp; omega
        have hd3 : decide ((k : Int) < (n : Int)) = false := by simp; omega
        have HKN : Box (k = n) := ⟨hkn2⟩
        clear hkn2 hlt HG
        go_upto_region 2 with fail
        go_quiet (fail)
        have hwk : Box (P.length = n ∧ n ≤ 1000 ∧ k ≤ n ∧ k ≤ n ∧ n ≤ cap) := ⟨HN.out.1, HN.out.2.1, hk, by omega, HN.out.2.2⟩
        obtain ⟨a1, hs1, ht1⟩ := islice_hi a n cap k hk HN.out.2.2
        obtain ⟨a2, hs2, ht2⟩ := islice_lo a n cap (k) (by omega) HN.out.2.2
        have HS1 : Box (∀ x, (Instr.sliceAt 26 (.slice a n cap) none (some (.int .i64 (k : Int))) none).run Tryd.prog x = .ok (.slice a1 k cap) x) := ⟨hs1⟩
        have HS2 : Box (∀ x, (Instr.sliceAt 26 (.slice a n cap) (some (.int .i64 ((k : Nat) : Int))) none none).run Tryd.prog x = .ok (.slice a2 (n - (k)) (cap - (k))) x) := ⟨hs2⟩
        have HT1 : Box (∀ y, Below w.heap.size w y → Tb y a1 2 ic (P.take k) ∧ Tb y a2 2 ic (P.drop (k))) := ⟨fun y hy => ⟨ht1 y P HN.out.1 (HTB.out y hy), ht2 y P HN.out.1 (HTB.out y hy)⟩⟩
        clear hs1 hs2 ht1 ht2
        obtain ⟨x2, hx2⟩ : ∃ x2, wr.drewN nq = x2 := ⟨_, rfl⟩
        have H2 : Box (PuK w x2 S (xb, xs)) := ⟨by rw [← hx2]; exact HNW.out nq⟩
        rw [hx2]
        have HX2 : Box (x2.rangeAt S 0 [.int .u64 xb, .string sx] ∧ S + 1 ≤ x2.heap.size ∧ Tb x2 a1 2 ic (P.take k)) := ⟨by
          have hr := H2.out.row
          simp only [ic, HSX.out] at hr
          exact ⟨range_arr hr _ (fun j v hv => by simpa using hv), (Array.getElem?_eq_some_iff.1 hr).1, (HT1.out x2 H2.out.bel).1⟩⟩
        have HLP : Box ((P.take k).length = k ∧ (P.drop (k)).length = n - (k) ∧ 0 + k ≤ 1000000 ∧ 0 + k + 1 + (n - (k)) ≤ 1000000) := ⟨by rw [List.length_take, HN.out.1]; omega, by rw [List.length_drop, HN.out.1], by have := hwk.out; omega, by have := hwk.out; omega⟩
        clear hx2
        go_upto_region 6 with (first
          | (refine atSlice 26 ?_; refine wpList_run rfl _ _ (exec_slice 26 (.tmp 24) none (some (.tmp 25)) rfl _ (HS1.out _)) ?_)
          | (at_builtin; refine wpList_appI rfl (.tmp 23) (.tmp 26) rfl (S + 1) 0 k cap (.slice none 0 0) [] (P.take k) a1 rfl rfl (World.ownsRow_nil _ _ _ _) HX2.out.2.2 HLP.out.1 HLP.out.2.2.1 HX2.out.2.1 ?_; intro v3 x3 q1 q2; have H3 : Box (x3.ownsRow (S + 1) 60 2 v3 (0 + k) ([] ++ ((P.take k).map ic).flatten) ∧ x2.grownBy x3 none) := ⟨q1, q2⟩; clear q1 q2))
        have HX3 : Box (x3.rangeAt S 0 [.int .u64 xb, .string sx] ∧ S + 1 ≤ x3.heap.size ∧ Below w.heap.size w x3) := ⟨by
          have hb : Below x2.heap.size x2 x3 := (Below.refl _ _).grown H3.out.2 (Nat.le_refl _) (fun j hj => by cases hj)
          refine ⟨fun i v hv => (hb.cell (show S < x2.heap.size by have := HX2.out.2.1; omega)).trans (HX2.out.1 i v hv), by have := hb.size; have := HX2.out.2.1; omega, below_to H2.out.bel hb⟩⟩
        go_upto_region 7 with (first
          | (refine atLoad 60 ?_; refine wpList_ldMid rfl 60 _ _ rfl Tryd.underlying60 rfl S 0 rfl [.int .u64 xb, .string sx] infoI2 HX3.out.1 ?_)
          | (at_builtin; refine wpList_appR 26 60 Tryd.underlying26 2 24 _ infI2 rfl (by decide) rfl (.tmp 28) (.tmp 30) rfl (S + 1) (0 + k) v3 ([] ++ ((P.take k).map ic).flatten) [.int .u64 xb, .string sx] x3 rfl rfl rfl H3.out.1 rfl (by simp [Value.oneCell']) HLP.out.2.2.1 (by decide) (by decide) HX3.out.2.1 ?_; intro v4 x4 q1 q2; have H4 : Box (x4.ownsRow (S + 1) 60 2 v4 (0 + k + 1) (([] ++ ((P.take k).map ic).flatten) ++ [.int .u64 xb, .string sx]) ∧ x3.grownBy x4 v3.ownBlock) := ⟨q1, q2⟩; clear q1 q2))
        have HX4 : Box (x4.cell? ⟨S, 0, none⟩ = some (.int .u64 xb) ∧ S + 1 ≤ x4.heap.size ∧ Below w.heap.size w x4) := ⟨by
          have hne : ∀ j, v3.ownBlock = some j → S + 1 ≤ j := fun j hj => (own_blk H3.out.1 j hj).1
          have hb : Below (S + 1) x3 x4 := (Below.refl _ _).grown H4.out.2 HX3.out.2.1 hne
          refine ⟨(hb.cell (show S < S + 1 by omega)).trans (HX3.out.1 0 _ rfl), by have := hb.size; have := HX3.out.2.1; omega, HX3.out.2.2.grown H4.out.2 HX3.out.2.2.size (fun j hj => by have := hne j hj; have := HSS.out; omega)⟩⟩
        have cx4 := HX4.out.1
        clear cx
        go_quiet (fail)
        obtain ⟨x5, hx5⟩ : ∃ x5, x4.drewN nq = x5 := ⟨_, rfl⟩
        have H5 : Box (x5.ownsRow (S + 1) 60 2 v4 (0 + k + 1) (([] ++ ((P.take k).map ic).flatten) ++ [.int .u64 xb, .string sx]) ∧ S + 1 ≤ x5.heap.size ∧ Below w.heap.size w x5) := ⟨by rw [← hx5]; exact ⟨own_to H4.out.1 (below_drewN (Below.refl _ _) _), HX4.out.2.1, below_drewN HX4.out.2.2 _⟩⟩
        rw [hx5]
        have HT5 : Box (Tb x5 a2 2 ic (P.drop (k))) := ⟨(HT1.out x5 H5.out.2.2).2⟩
        clear hx5 cx4
        go_wp2_with (first
          | (refine atSlice 26 ?_; refine wpList_run rfl _ _ (exec_slice 26 (.tmp 49) (some (.tmp 50)) none rfl _ (HS2.out _)) ?_)
          | (at_builtin; refine wpList_appI rfl (.tmp 48) (.tmp 51) rfl (S + 1) (0 + k + 1) (n - (k)) (cap - (k)) v4 _ (P.drop (k)) a2 rfl rfl H5.out.1 HT5.out HLP.out.2.1 HLP.out.2.2.2 H5.out.2.1 ?_; intro v6 x6 q1 q2; have H6 : Box (x6.ownsRow (S + 1) 60 2 v6 (0 + k + 1 + (n - (k))) ((([] ++ ((P.take k).map ic).flatten) ++ [.int .u64 xb, .string sx]) ++ ((P.drop (k)).map ic).flatten) ∧ x5.grownBy x6 v4.ownBlock) := ⟨q1, q2⟩; clear q1 q2))
        go_ret
        have hne : ∀ j, v4.ownBlock = some j → S + 1 ≤ j := fun j hj => (own_blk H5.out.1 j hj).1
        refine ⟨v6, rfl, ?_, H5.out.2.2.grown H6.out.2 H5.out.2.2.size (fun j hj => by have := hne j hj; have := HSS.out; omega)⟩
        have hcut := HCUT.out
        have hlen : (insP P (xb, xs)).length = 0 + k + 1 + (n - (k)) := by rw [hcut, List.length_append, List.length_cons, HLP.out.1, HLP.out.2.1]; omega
        have hfl : ((insP P (xb, xs)).map ic).flatten = (([] ++ ((P.take k).map ic).flatten) ++ [.int .u64 xb, .string sx]) ++ ((P.drop (k)).map ic).flatten := by
          rw [hcut]
          simp [ic, HSX.out]
        rw [hlen]
        refine own_low2 (base := S + 1) ?_ (by have := HSS.out; omega)
        have := H6.out.1
        rw [← hfl] at this
        exact this
end Go.Proofs.YteaejodihmnbcaaDoor
