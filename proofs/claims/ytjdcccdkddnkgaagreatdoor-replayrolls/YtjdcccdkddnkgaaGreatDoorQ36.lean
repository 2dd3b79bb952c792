/-
  What changes of package replay answers.
-/
import Derived.Test.YtjdcccdkddnkgaaGreatDoorQ34
import Derived.Test.YtjdcccdkddnkgaaGreatDoorQ35
namespace Go.Proofs.YtjdcccdkddnkgaaGreatDoor
set_option maxRecDepth 100000
set_option linter.unusedVariables false
set_option maxRecDepth 100000
open Go.RowKit Plain
attribute [local go_sem] Oper.semAt_some
/-- The last record ends a change, if there is one. -/
def lastOk (L : List ((Int × List Int) × Bool)) : Prop := ∀ h : 0 < L.length, (L[L.length - 1]'(by omega)).2 = true
def Good (K : List Int) (L : List (Nat × List Int)) : Prop := (∀ x ∈ L, Opn K x) ∧ lastOk (L.map (opR K))
/-- So far. -/
structure ChQ (w wr : World) (S : Nat) (K : List Int) (X : List Sl) (k : Nat) (v : Value) (R : List Rc) : Prop where
  row : wr.ownsRow w.heap.size 101 3 v R.length (R.map rcc).flatten
  byt : ∀ r ∈ R, OIm wr w.heap.size r.m ∧ r.m.bl = 160
  eq : R.map rpl = ((X.map spl).take k).map (opR K)
  opn : ∀ x ∈ (X.map spl).take k, Opn K x
  r0 : wr.heap[S]? = some (.cells (u8s K) 23 (0, 0))
  bel : Below w.heap.size w wr
theorem ChQ.len {w wr : World} {S : Nat} {K : List Int} {X : List Sl} {k : Nat} {v : Value} {R : List Rc} (h : ChQ w wr S K X k v R) (hk : k ≤ X.length) : R.length = k := by
  have := congrArg List.length h.eq
  simp at this
  omega
theorem ChQ.step {w wr x2 w' : World} {S k : Nat} {K : List Int} {X : List Sl} {v v' : Value} {R : List Rc} (h : ChQ w wr S K X k v R) (hk : k < X.length) (hb : Below wr.heap.size wr x2) (r : Rc) (hr : rpl r = opR K (spl X[k])) (hbl : r.m.bl = 160) (ho : OIm x2 wr.heap.size r.m) (hop : Opn K (spl X[k])) (hS : w.heap.size ≤ S)
    (hw : w'.ownsRow w.heap.size 101 3 v' (R.length + 1) ((R.map rcc).flatten ++ rcc r)) (hg : x2.grownBy w' v.ownBlock) : ChQ w w' S K X (k + 1) v' (R ++ [r]) := by
  have hrow := own_to h.row hb
  have hk2 : k < (X.map spl).length := by simpa using hk
  have hS1 : S < wr.heap.size := (Array.getElem?_eq_some_iff.1 h.r0).1
  have nS : ¬ some S = v.ownBlock := fun e => by
    obtain ⟨_, cur, h2⟩ := own_blk h.row S e.symm
    rw [h.r0] at h2
    simp only [Option.some.injEq, Obj.cells.injEq] at h2
    exact absurd h2.2.1 (by decide)
  refine ⟨?_, fun m hm => ?_, ?_, ?_, ?_, ?_⟩
  · rw [List.map_append, List.flatten_append]
    simpa using hw
  · rcases List.mem_append.1 hm with hm | hm
    · exact ⟨(((h.byt m hm).1).to hb).grown hrow (by decide) hg, (h.byt m hm).2⟩
    · simp only [List.mem_cons, List.not_mem_nil, or_false] at hm
      subst hm
      exact ⟨(ho.grown hrow (by decide) hg).low (h.bel.size), hbl⟩
  · rw [List.map_append, h.eq, List.take_succ_eq_append_getElem hk2, List.map_append]
    simp [hr]
  · intro x hx
    rw [List.take_succ_eq_append_getElem hk2] at hx
    rcases List.mem_append.1 hx with hx | hx
    · exact h.opn x hx
    · simp only [List.mem_cons, List.not_mem_nil, or_false] at hx
      rw [hx, List.getElem_map]
      exact hop
  · exact (hg.block S (by have := hb.size; omega) nS).trans ((hb.block S hS1).trans h.r0)
  · have hb2 := below_to h.bel hb
    exact hb2.grown hg hb2.size (fun j hj => (own_blk hrow j hj).1)
theorem ChQ.recs {w wr : World} {S n c : Nat} {K : List Int} {X : List Sl} {k : Nat} {a : Option Addr} {R : List Rc} (h : ChQ w wr S K X k (.slice a n c) R) (hn : R.length = n) : Recs wr a R := by
  have hr := h.row
  rw [hn] at hr
  exact ⟨own_tb (f := rcc) (fun _ => rfl) hr hn, fun r hm => ⟨((h.byt r hm).1).byi.1, ((h.byt r hm).1).num, by rw [(h.byt r hm).2]; omega⟩⟩
theorem lastOk_of {K : List Int} {L : List (Nat × List Int)} {R : List Rc} (e : R.map rpl = L.map (opR K)) : lastOk (L.map (opR K)) ↔ ∀ h0 : 0 < R.length, (R[R.length - 1]'(by omega)).l = true := by
  rw [← e]
  unfold lastOk
  constructor
  · intro h h0
    have := h (by simpa using h0)
    simpa [rpl] using this
  · intro h h0
    have := h (by simpa using h0)
    simpa [rpl] using this
theorem last_cases (R : List Rc) : (∀ h0 : 0 < R.length, (R[R.length - 1]'(by omega)).l = true) ∨ ∃ h0 : 0 < R.length, (R[R.length - 1]'(by omega)).l = false := by
  by_cases h0 : 0 < R.length
  · cases hq : (R[R.length - 1]'(by omega)).l
    · exact .inr ⟨h0, hq⟩
    · exact .inl fun _ => hq
  · exact .inl fun h => absurd h h0
set_option maxHeartbeats 8000000 in
theorem changes_v {w : World} {B : Nat} {v : Value} {X : List Sl} (h : Slots w B v X) (hT : Seal.Tab w) (K : List Int) (hK : K.length = 32 ∧ Byt K) (hl : X.length ≤ 1000) :
    Calls Tryz.prog 60 #[.agg (u8s K), v] w fun e w' => ((¬ Good K (X.map spl) ∧ e = .returned (.tuple #[.slice none 0 0, .int .i64 14])) ∨ (Good K (X.map spl) ∧ ∃ u C, e = .returned (.tuple #[u, .int .i64 0]) ∧ Chs w' w.heap.size u C ∧ C.map (fun c => c.M.map pl) = (chS ((X.map spl).map (opR K))).1)) ∧ Below w.heap.size w w' := by
  obtain ⟨a, c, rfl⟩ := h.form
  obtain ⟨n, hn⟩ : ∃ n, X.length = n := ⟨_, rfl⟩
  rw [hn] at h hl ⊢
  obtain ⟨S, hS⟩ : ∃ S, w.heap.size = S := ⟨_, rfl⟩
  obtain ⟨AK, hAK⟩ : ∃ A, u8s K = A := ⟨_, rfl⟩
  rw [hAK]
  obtain ⟨w1, hw1⟩ : ∃ w1, w.alloc (.cells AK 23) = w1 := ⟨_, rfl⟩
  have hb1 : Below w.heap.size w w1 := by rw [← hw1]; exact (Below.refl _ _).alloc (Nat.le_refl _) _
  have H0 : Box (ChQ w w1 S K X 0 (.slice none 0 0) []) := ⟨⟨World.ownsRow_nil _ _ _ _, fun m hm => by simp at hm, rfl, fun x hx => by simp at hx, by rw [← hw1, hAK]; exact al_at hS, hb1⟩⟩
  have HSS : Box (w.heap.size = S) := ⟨hS⟩
  have HX : Box (∀ wr, Below w.heap.size w wr → ∀ k (hk : k < X.length), ∃ b, a = some ⟨b, 0, none⟩ ∧ wr.rangeAt b (0 + k * 2) (stc X[k]) ∧ b < wr.heap.size) := ⟨fun wr hb k hk => (h.to hb).at hn k hk⟩
  have HOP : Box (∀ (wr y : World) (k : Nat) (hk : k < X.length), Below w.heap.size w wr → Below wr.heap.size wr y → Calls Tryz.prog 86 #[.agg AK, .agg (stc X[k]).toArray] y fun e w' => ((¬ Opn K (spl X[k]) ∧ e = .returned (.tuple #[.agg (rcc zrc).toArray, .int .i64 11])) ∨ (Opn K (spl X[k]) ∧ ∃ r, e = .returned (.tuple #[.agg (rcc r).toArray, .int .i64 0]) ∧ rpl r = opR K (spl X[k]) ∧ r.m.bl = 160 ∧ OIm w' y.heap.size r.m)) ∧ Below y.heap.size y w') := ⟨fun wr y k hk hb hy => by
    have := opened_v ((h.to (below_to hb hy)).byt X[k] (List.getElem_mem hk)) (hT.below (below_to hb hy)) K hK
    rw [hAK] at this
    exact this⟩
  have HN : Box (X.length = n ∧ n ≤ 1000) := ⟨hn, hl⟩
  have HKU : Box ((Tryz.prog.info? 23).map (·.size) = some (K.map (Value.int .u8)).length ∧ (K.map (Value.int .u8)).toArray = AK) := ⟨by rw [List.length_map, hK.1]; exact infoSum, by rw [← hAK]; rfl⟩
  clear h hT hb1 hn hS hK hAK
  go_enter Tryz.func60, Tryz.ntmps60
  go_upto_region 2 with fail
  (try simp only [HSS.out])
  clear hw1
  go_wp2
  go_loopw [6, 15] (fun v i wr => ∃ (k : Nat) (R : List Rc), k ≤ n ∧ i = .int .i64 (k : Int) ∧ Box (ChQ w wr S K X k v R)) (fun _ i _ => n - (intOf i).toNat)
  case atStart => exact ⟨0, [], Nat.zero_le _, rfl, H0⟩
  case round =>
    clear H0
    obtain ⟨k, R, hk, rfl, HG⟩ := hrel
    by_cases hlt : k < n
    · have hlt1 : decide ((k : Int) < (n : Int)) = true := by simp; omega
      have hkX : k < X.length := by rw [HN.out.1]; exact hlt
      obtain ⟨b, rfl, hr, hbl⟩ := HX.out wr HG.out.bel k hkX
      have HR : Box (wr.rangeAt b (0 + k * 2) (stc X[k])) := ⟨hr⟩
      have HK : Box (k < n) := ⟨hlt⟩
      obtain ⟨G, hG⟩ : ∃ G, wr.heap.size = G := ⟨_, rfl⟩
      have HCL : Box _ := ⟨fun y => HOP.out wr y k hkX HG.out.bel⟩
      have hSl : S < wr.heap.size := (Array.getElem?_eq_some_iff.1 HG.out.r0).1
      have HRK : Box (∀ y, Below wr.heap.size wr y → y.rangeAt S 0 (K.map (Value.int .u8))) := ⟨fun y hy => range_u8 ((hy.block S hSl).trans HG.out.r0)⟩
      have HST : Box (∀ (x2 w' : World) (r : Rc) (v' : Value), Below wr.heap.size wr x2 → rpl r = opR K (spl X[k]) → r.m.bl = 160 → OIm x2 wr.heap.size r.m → Opn K (spl X[k]) → w'.ownsRow w.heap.size 101 3 v' (R.length + 1) ((R.map rcc).flatten ++ rcc r) → x2.grownBy w' u6.ownBlock → ∃ R', ChQ w w' S K X (k + 1) v' R') := ⟨fun x2 w' r v' q1 q2 q3 q4 q5 q6 q7 => ⟨_, HG.out.step hkX q1 r q2 q3 q4 q5 (by have := HSS.out; omega) q6 q7⟩⟩
      have HBAD : Box (¬ Opn K (spl X[k]) → ¬ Good K (X.map spl)) := ⟨fun h1 h2 => h1 (h2.1 _ (List.mem_map.2 ⟨_, List.getElem_mem hkX, rfl⟩))⟩
      have HBW : Box (∀ y, Below wr.heap.size wr y → Below w.heap.size w y) := ⟨fun y hy => below_to HG.out.bel hy⟩
      have HOW : Box (∀ y, Below wr.heap.size wr y → y.ownsRow w.heap.size 101 3 u6 R.length (R.map rcc).flatten ∧ w.heap.size ≤ y.heap.size) := ⟨fun y hy => ⟨own_to HG.out.row hy, Nat.le_trans HG.out.bel.size hy.size⟩⟩
      have HRL : Box (R.length ≤ 1000000) := ⟨by have := HG.out.len (by rw [HN.out.1]; exact hk); have := HN.out.2; omega⟩
      obtain ⟨⟨p, g, bs⟩, hx⟩ : ∃ x, X[k] = x := ⟨_, rfl⟩
      have HHG : Box (wr.heap.size = G) := ⟨hG⟩
      rw [hx] at HR HCL HST HBAD
      simp only [stc] at HR HCL
      clear hx hr hG hSl
      go_upto_region 5 with (first
        | (refine atIdx 129 ?_; refine wpList_run rfl _ _ (exec_idxT 129 172 Tryz.underlying129 2 infoStl _ _ rfl b 0 n c k rfl rfl HK.out) ?_)
        | (refine atLoad 172 ?_; refine wpList_ldMid rfl 172 _ _ rfl Tryz.underlying172 rfl b (0 + k * 2) rfl [.int .u32 (p : Int), .slice (some ⟨g, 0, none⟩) 192 192] infoStl HR.out ?_)
        | (refine atAlloc _ ?_; refine wpList_run rfl _ _ (exec_alloc 172 rfl _ zeroStl) ?_)
        | (refine atStore _ ?_; refine wpList_newRow wr #[.int .u32 0, .slice none 0 0] #[.int .u32 (p : Int), .slice (some ⟨g, 0, none⟩) 192 192] infoStl rfl (by simp [Value.oneCell']) rfl _ _ rfl rfl rfl rfl ?_; intro x1 h1 hb1; have H1 : Box (x1.heap[wr.heap.size]? = some (.cells #[.int .u32 (p : Int), .slice (some ⟨g, 0, none⟩) 192 192] 172 (0, 0)) ∧ Below wr.heap.size wr x1) := ⟨h1, hb1⟩; clear h1 hb1))
      (try simp only [HHG.out])
      have HRS : Box (x1.rangeAt G 0 [.int .u32 (p : Int), .slice (some ⟨g, 0, none⟩) 192 192] ∧ x1.rangeAt S 0 (K.map (Value.int .u8))) := ⟨by
        have := H1.out.1
        rw [HHG.out] at this
        exact range_arr this _ (fun j v hv => by simpa using hv), HRK.out x1 H1.out.2⟩
      have HC1 : Box _ := ⟨HCL.out x1 H1.out.2⟩
      clear HR HCL HX HOP
      by_cases hop : Opn K (spl ⟨p, g, bs⟩)
      · have HC2 : Box (Calls Tryz.prog 86 #[.agg AK, .agg #[.int .u32 (p : Int), .slice (some ⟨g, 0, none⟩) 192 192]] x1 fun e w' => ∃ r, e = .returned (.tuple #[.agg (rcc r).toArray, .int .i64 0]) ∧ rpl r = opR K (spl ⟨p, g, bs⟩) ∧ r.m.bl = 160 ∧ OIm w' x1.heap.size r.m ∧ Below x1.heap.size x1 w') := ⟨HC1.out.mono fun e w' ⟨h1, h2⟩ => by
          rcases h1 with ⟨h3, _⟩ | ⟨_, r, q1, q2, q3, q4⟩
          · exact absurd hop h3
          · exact ⟨r, q1, q2, q3, q4, h2⟩⟩
        have HOK : Box (Opn K (spl ⟨p, g, bs⟩)) := ⟨hop⟩
        clear HC1 hop
        go_upto_region 8 with (first
          | (refine atLoad 23 ?_; refine wpList_ldMid rfl 23 _ _ rfl Tryz.underlying23 rfl S 0 rfl (K.map (Value.int .u8)) HKU.out.1 HRS.out.2 ?_; rw [HKU.out.2])
          | (refine atLoad 172 ?_; refine wpList_ldMid rfl 172 _ _ rfl Tryz.underlying172 rfl G 0 rfl [.int .u32 (p : Int), .slice (some ⟨g, 0, none⟩) 192 192] infoStl HRS.out.1 ?_)
          | (go_at_call 86; refine HC2.out.mono ?_; rintro e x2 ⟨⟨⟨mb, ma, ml, mc, ms⟩, bo⟩, rfl, q1, q2, q3, q4⟩; have H2 : Box (rpl ⟨⟨mb, ma, ml, mc, ms⟩, bo⟩ = opR K (spl ⟨p, g, bs⟩) ∧ ml = 160 ∧ OIm x2 x1.heap.size ⟨mb, ma, ml, mc, ms⟩ ∧ Below x1.heap.size x1 x2) := ⟨q1, q2, q3, q4⟩; simp only [rcc]; clear q1 q2 q3 q4)
          | (refine atAlloc _ ?_; refine wpList_run rfl _ _ (exec_alloc 101 rfl _ zeroRc) ?_)
          | (refine atStore _ ?_; refine wpList_newRow x2 (rcc zrc).toArray #[.int .u64 mb, .slice ma ml mc, .bool bo] infoRc rfl (by simp [Value.oneCell']) rfl _ _ rfl rfl rfl rfl ?_; intro x3 h3 hb3; have H3 : Box (x3.heap[x2.heap.size]? = some (.cells #[.int .u64 mb, .slice ma ml mc, .bool bo] 101 (0, 0)) ∧ Below x2.heap.size x2 x3) := ⟨h3, hb3⟩; clear h3 hb3))
        obtain ⟨G2, hG2⟩ : ∃ G, x2.heap.size = G := ⟨_, rfl⟩
        (try simp only [hG2])
        have HR3 : Box (x3.rangeAt G2 0 [.int .u64 mb, .slice ma ml mc, .bool bo] ∧ Below wr.heap.size wr x3 ∧ OIm x3 wr.heap.size ⟨mb, ma, ml, mc, ms⟩) := ⟨by
          have := H3.out.1
          rw [hG2] at this
          exact range_arr this _ (fun j v hv => by simpa using hv), below_to H1.out.2 (below_to H2.out.2.2.2 H3.out.2), (H2.out.2.2.1.to H3.out.2).low H1.out.2.size⟩
        have HO3 : Box _ := ⟨HOW.out x3 HR3.out.2.1⟩
        clear hG2
        go_wp2_with (first
          | (refine atLoad 101 ?_; refine wpList_ldMid rfl 101 _ _ rfl Tryz.underlying101 rfl G2 0 rfl [.int .u64 mb, .slice ma ml mc, .bool bo] infoRc HR3.out.1 ?_)
          | (at_builtin; refine wpList_appR 96 101 Tryz.underlying96 3 40 _ infRc rfl (by decide) rfl (.tmp 27) (.tmp 29) rfl w.heap.size R.length u6 (R.map rcc).flatten [.int .u64 mb, .slice ma ml mc, .bool bo] x3 rfl rfl rfl HO3.out.1 rfl (by simp [Value.oneCell']) HRL.out (by decide) (by decide) HO3.out.2 ?_; intro v4 x4 a1 a2; have H4 : Box (∃ R', ChQ w x4 S K X (k + 1) v4 R') := ⟨HST.out x3 x4 ⟨⟨mb, ma, ml, mc, ms⟩, bo⟩ v4 HR3.out.2.1 H2.out.1 H2.out.2.1 HR3.out.2.2 HOK.out a1 a2⟩; clear a1 a2))
        go_roundw
        case rel =>
          obtain ⟨R', h⟩ := H4.out
          exact ⟨k + 1, R', by omega, by go_num, ⟨h⟩⟩
        case measure => simp [intOf]; omega
      · have HC2 : Box (Calls Tryz.prog 86 #[.agg AK, .agg #[.int .u32 (p : Int), .slice (some ⟨g, 0, none⟩) 192 192]] x1 fun e w' => e = .returned (.tuple #[.agg (rcc zrc).toArray, .int .i64 11]) ∧ Below x1.heap.size x1 w') := ⟨HC1.out.mono fun e w' ⟨h1, h2⟩ => by
          rcases h1 with ⟨_, h3⟩ | ⟨h3, _⟩
          · exact ⟨h3, h2⟩
          · exact absurd h3 hop⟩
        have HNG : Box (¬ Good K (X.map spl)) := ⟨HBAD.out hop⟩
        clear HC1 hop
        go_wp2_with (first
          | (refine atLoad 23 ?_; refine wpList_ldMid rfl 23 _ _ rfl Tryz.underlying23 rfl S 0 rfl (K.map (Value.int .u8)) HKU.out.1 HRS.out.2 ?_; rw [HKU.out.2])
          | (refine atLoad 172 ?_; refine wpList_ldMid rfl 172 _ _ rfl Tryz.underlying172 rfl G 0 rfl [.int .u32 (p : Int), .slice (some ⟨g, 0, none⟩) 192 192] infoStl HRS.out.1 ?_)
          | (go_at_call 86; refine HC2.out.mono ?_; rintro e x2 ⟨rfl, q4⟩; have H2 : Box (Below x1.heap.size x1 x2) := ⟨q4⟩; clear q4)
          | (refine atAlloc _ ?_; refine wpList_run rfl _ _ (exec_alloc 101 rfl _ zeroRc) ?_)
          | (refine atStore _ ?_; refine wpList_newRow x2 (rcc zrc).toArray (rcc zrc).toArray infoRc rfl all_rc0 rfl _ _ rfl rfl rfl rfl ?_; intro x3 h3 hb3; have H3 : Box (Below x2.heap.size x2 x3) := ⟨hb3⟩; clear h3 hb3))
        go_ret2
        exact ⟨.inl ⟨HNG.out, rfl⟩, HBW.out x3 (below_to H1.out.2 (below_to H2.out H3.out))⟩
    · have hlt1 : decide ((k : Int) < (n : Int)) = false := by simp; omega
      obtain rfl : k = n := by omega
      have hRl := HG.out.len (by rw [HN.out.1]; exact Nat.le_refl _)
      have htk : (X.map spl).take k = X.map spl := List.take_of_length_le (by rw [List.length_map, HN.out.1]; exact Nat.le_refl _)
      have HEQ : Box (R.map rpl = (X.map spl).map (opR K) ∧ ∀ x ∈ X.map spl, Opn K x) := ⟨by have := HG.out.eq; rwa [htk] at this, fun x hx => HG.out.opn x (by rw [htk]; exact hx)⟩
      obtain ⟨a6, c6, rfl⟩ := own_form2 HG.out.row
      have hrec := HG.out.recs rfl
      have hk10 := HN.out.2
      have HBW : Box (Below w.heap.size w wr) := ⟨HG.out.bel⟩
      rcases last_cases R with hla | ⟨h0, hlf⟩
      · have HCH : Box (Calls Tryz.prog 87 #[.slice a6 R.length c6] wr fun e w' => ∃ v C, e = .returned (.tuple #[v, .int .i64 0]) ∧ Chs w' wr.heap.size v C ∧ C.map (fun c => c.M.map pl) = (chS (R.map rpl)).1 ∧ Below wr.heap.size wr w') := ⟨changes_ok a6 c6 R wr hrec (by omega) hla⟩
        have HGD : Box (Good K (X.map spl)) := ⟨HEQ.out.2, (lastOk_of HEQ.out.1).2 hla⟩
        clear hla hrec htk HG hRl
        go_wp2_with (go_at_call 87; refine HCH.out.mono ?_; rintro e x2 ⟨u, C, rfl, q1, q2, q3⟩; have H2 : Box (Chs x2 wr.heap.size u C ∧ C.map (fun c => c.M.map pl) = (chS (R.map rpl)).1 ∧ Below wr.heap.size wr x2) := ⟨q1, q2, q3⟩; clear q1 q2 q3)
        go_ret2
        refine ⟨.inr ⟨HGD.out, u, C, rfl, ?_, by rw [← HEQ.out.1]; exact H2.out.2.1⟩, below_to HBW.out H2.out.2.2⟩
        have hc := H2.out.1
        have hz := HBW.out.size
        refine ⟨own_low2 hc.row hz, fun c hcm => ?_⟩
        obtain ⟨q1, ⟨g, p, q2, q3, q4, q5⟩, q6⟩ := hc.im c hcm
        exact ⟨q1, ⟨g, p, by omega, q3, q4, q5⟩, fun m hm => (q6 m hm).low hz⟩
      · have HCH : Box (Calls Tryz.prog 87 #[.slice a6 R.length c6] wr fun e w' => e = .returned (.tuple #[.slice none 0 0, .int .i64 11]) ∧ wr = w') := ⟨changes_bad a6 c6 R wr hrec (by omega) h0 hlf⟩
        have HGD : Box (¬ Good K (X.map spl)) := ⟨fun h => by have := (lastOk_of HEQ.out.1).1 h.2 h0; rw [hlf] at this; cases this⟩
        clear hlf hrec htk HG hRl h0
        go_wp2_with (go_at_call 87; refine HCH.out.mono ?_; rintro e x2 ⟨rfl, rfl⟩)
        go_ret2
        exact ⟨.inl ⟨HGD.out, rfl⟩, HBW.out⟩
end Go.Proofs.YtjdcccdkddnkgaaGreatDoor
