/-
  What Latest of the reference answers. And what follows it.
-/
import Derived.Test.YteaejodihmnbcaaDoorQ35
import Derived.Test.YteaejodihmnbcaaDoorQ33
import Derived.Test.YteaejodihmnbcaaDoorQ20
import Derived.Test.YteaejodihmnbcaaDoorQ32
import Derived.Shelf.SlSortCmp.WholeK
import Derived.Shelf.SlGeneric
import Derived.Shelf.Lay
import Derived.Ground.SlsfProg
import Derived.Test.YteaejodihmnbcaaDoorQ34
namespace Go.Proofs.YteaejodihmnbcaaDoor
set_option maxRecDepth 100000
set_option linter.unusedVariables false
open Go.RowKit Plain
attribute [local go_sem] Oper.semAt_some
theorem len_insP (x : Int × List Int) : ∀ P, (insP P x).length ≤ P.length + 1
  | [] => by simp [insP]
  | y :: P => by
    rw [insP]
    split
    · have := len_insP x P
      simp only [List.length_cons]
      omega
    · split <;> simp
theorem len_latP (L : List (Int × List Int)) : (latP L).length ≤ L.length := by
  have key : ∀ (L P : List (Int × List Int)), (L.foldl insP P).length ≤ P.length + L.length := by
    intro L
    induction L with
    | nil => intro P; simp
    | cons x L ih =>
      intro P
      have h1 := ih (insP P x)
      have h2 := len_insP x P
      simp only [List.foldl_cons, List.length_cons]
      omega
  simpa [latP] using key L []
/-- The row of what is last, so far. -/
structure LaK (w wr : World) (Q : List (Int × List Int)) (v : Value) : Prop where
  row : wr.ownsRow w.heap.size 60 2 v (latP Q).length ((latP Q).map ic).flatten
  bel : Below w.heap.size w wr
def allP (A : List Wx) : List (Int × List Int) := (A.map (·.P)).flatten
theorem allP_take (A : List Wx) (k : Nat) (hk : k < A.length) : allP (A.take (k + 1)) = allP (A.take k) ++ A[k].P := by
  rw [List.take_succ_eq_append_getElem hk]
  simp only [allP, List.map_append, List.map_cons, List.map_nil, List.flatten_append, List.flatten_cons, List.flatten_nil, List.append_nil]
theorem allP_le (A : List Wx) (k : Nat) : (allP (A.take k)).length ≤ (allP A).length := by
  have : allP A = allP (A.take k) ++ allP (A.drop k) := by
    unfold allP
    rw [← List.flatten_append, ← List.map_append, List.take_append_drop]
  rw [this, List.length_append]
  omega
set_option maxHeartbeats 8000000 in
theorem rlatest_any (a : Option Addr) (cap : Nat) (A : List Wx) (w : World) (h : Rws w a A) (hl : A.length ≤ 1000) (ht : (allP A).length ≤ 1000) :
    Calls Tryd.prog 8 #[.slice a A.length cap] w fun e w' => ∃ v, e = .returned v ∧ LaK w w' (allP A) v := by
  obtain ⟨n, hn⟩ : ∃ n, A.length = n := ⟨_, rfl⟩
  have HI : Box (∀ wr, Below w.heap.size w wr → Rws wr a A) := ⟨fun wr hb => h.below hb⟩
  have HN : Box (A.length = n ∧ n ≤ 1000 ∧ (allP A).length ≤ 1000) := ⟨hn, by omega, ht⟩
  rw [hn]
  clear h hl hn ht
  go_enter Tryd.func8, Tryd.ntmps8
  go_wp2
  go_loopw [3, 4] (fun v i wr => ∃ k : Nat, k ≤ n ∧ i = .int .i64 (k : Int) ∧ Box (LaK w wr (allP (A.take k)) v)) (fun _ i _ => n - (intOf i).toNat)
  case atStart => exact ⟨0, Nat.zero_le _, rfl, ⟨⟨World.ownsRow_nil _ _ _ _, Below.refl _ _⟩⟩⟩
  case round =>
    obtain ⟨k, hk, rfl, HG⟩ := hrel
    obtain ⟨wo, rfl⟩ : ∃ wo, wo = wr := ⟨_, rfl⟩
    by_cases hlt : k < n
    · have hlt1 : decide ((k : Int) < (n : Int)) = true := by simp; omega
      have hkA : k < A.length := by rw [HN.out.1]; exact hlt
      have HK : Box (k < n) := ⟨hlt⟩
      have HAL : Box (allP (A.take (k + 1)) = allP (A.take k) ++ A[k].P) := ⟨allP_take A k hkA⟩
      have HIK : Box (∀ wr, Below w.heap.size w wr → ∃ b o, a = some ⟨b, o, none⟩ ∧ wr.cell? ⟨b, o + k, none⟩ = some (.slice A[k].a A[k].l A[k].c) ∧ A[k].P.length = A[k].l ∧ Tb wr A[k].a 2 ic A[k].P) := ⟨fun wr hb => by
        have hI := HI.out wr hb
        obtain ⟨b, o, hae, _, hr⟩ := hI.tb (by omega)
        have := hr k hkA 0 _ rfl
        rw [Nat.mul_one, Nat.add_zero] at this
        exact ⟨b, o, hae, this, (hI.im A[k] (List.getElem_mem hkA)).1, (hI.im A[k] (List.getElem_mem hkA)).2⟩⟩
      have HLE : Box (∀ j, j ≤ A[k].P.length → (allP (A.take k) ++ A[k].P.take j).length ≤ 1000) := ⟨fun j hj => by
        have h1 := allP_le A (k + 1)
        rw [allP_take A k hkA] at h1
        have h2 := HN.out.2.2
        simp only [List.length_append, List.length_take] at h1 ⊢
        omega⟩
      obtain ⟨⟨xa, l, xc, XP⟩, hx⟩ : ∃ x, A[k] = x := ⟨_, rfl⟩
      rw [hx] at HAL HIK HLE
      dsimp only at HAL HIK HLE
      obtain ⟨Q0, hQ0⟩ : ∃ Q, allP (A.take k) = Q := ⟨_, rfl⟩
      rw [hQ0] at HG HAL HLE
      have HG0 : Box (LaK w wo (Q0 ++ XP.take 0) u3) := ⟨by simpa using HG.out⟩
      obtain ⟨b, o, hae, _, hXl, _⟩ := HIK.out wo HG.out.bel
      subst hae
      have HXL : Box (XP.length = l) := ⟨hXl⟩
      clear hx hQ0 hXl HG
      go_wp2
      go_loopw [3, 5] (fun v j wr => ∃ q : Nat, q ≤ l ∧ j = .int .i64 (q : Int) ∧ Box (LaK w wr (Q0 ++ XP.take q) v)) (fun _ j _ => l - (intOf j).toNat)
      case atStart => exact ⟨0, Nat.zero_le _, rfl, HG0⟩
      case round =>
        clear HG0
        obtain ⟨q, hq, rfl, HQ⟩ := hrel
        obtain ⟨b', o', e, c0, _, hT⟩ := HIK.out wr HQ.out.bel
        cases e
        by_cases hql : q < l
        · have hq1 : decide ((q : Int) < (l : Int)) = true := by simp; omega
          have hqX : q < XP.length := by rw [HXL.out]; exact hql
          have HQL : Box (q < l) := ⟨hql⟩
          obtain ⟨b2, o2, hae2, _, hr2⟩ := hT (by omega)
          subst hae2
          have hrq := hr2 q hqX
          have HSTP : Box (Q0 ++ XP.take (q + 1) = (Q0 ++ XP.take q) ++ [XP[q]]) := ⟨by rw [List.take_succ_eq_append_getElem hqX, List.append_assoc]⟩
          obtain ⟨⟨xb, xs⟩, hxx⟩ : ∃ p, XP[q] = p := ⟨_, rfl⟩
          rw [hxx] at hrq HSTP
          obtain ⟨sx, hsx⟩ : ∃ s, strOfNums xs = s := ⟨_, rfl⟩
          simp only [ic, hsx] at hrq
          have HR : Box (wr.rangeAt b2 (o2 + q * 2) [.int .u64 xb, .string sx]) := ⟨hrq⟩
          obtain ⟨va, vc, hv⟩ := own_form2 HQ.out.row
          have HPU : Box (Calls Tryd.prog 20 #[u3, .agg #[.int .u64 xb, .string sx]] wr fun e w' => ∃ v, e = .returned v ∧ LaK w w' (Q0 ++ XP.take (q + 1)) v) := ⟨by
            have hrow := HQ.out.row
            rw [hv] at hrow
            have hcp := (own_cap2 hrow).1
            have hle := HLE.out q (by omega)
            have hlp := len_latP (Q0 ++ XP.take q)
            have := rput14_any va vc (latP (Q0 ++ XP.take q)) (xb, xs) wr (own_tb (fun _ => rfl) hrow rfl) (by omega) hcp
            simp only [ic, hsx] at this
            rw [hv]
            refine this.mono ?_
            rintro e w' ⟨v, rfl, q1, q2⟩
            refine ⟨v, rfl, ?_, below_to HQ.out.bel q2⟩
            rw [HSTP.out, latP_snoc]
            have e2 : ((insP (latP (Q0 ++ XP.take q)) (xb, xs)).map ic).flatten = ((insP (latP (Q0 ++ XP.take q)) (xb, xs)).map fun x => [Value.int IntKind.u64 x.1, Value.string (strOfNums x.2)]).flatten := rfl
            rw [e2]
            exact own_low2 q1 HQ.out.bel.size⟩
          have hw4 : IntKind.i64.wrap ((q : Int) + 1) = ((q + 1 : Nat) : Int) := by have := HLE.out q (by omega); have : l ≤ 1000 ∨ True := .inr trivial; rw [IntKind.wrap_i64]; simp only [List.length_append, List.length_take] at *; omega
          clear hrq hr2 hxx hsx hv hT
          go_wp2_with (first
            | (refine atIdx 28 ?_; refine wpList_run rfl _ _ (exec_idxT 28 26 Tryd.underlying28 1 infoSlIz _ _ rfl b o n cap k rfl rfl HK.out) ?_; (try rw [Nat.mul_one]))
            | (refine atIdx 26 ?_; refine wpList_run rfl _ _ (exec_idxT 26 60 Tryd.underlying26 2 infoI2 _ _ rfl b2 o2 l xc q rfl rfl HQL.out) ?_)
            | (refine atLoad 60 ?_; refine wpList_ldMid rfl 60 _ _ rfl Tryd.underlying60 rfl b2 (o2 + q * 2) rfl [.int .u64 xb, .string sx] infoI2 HR.out ?_)
            | (go_at_call 20; refine HPU.out.mono ?_; rintro e x2 ⟨v2, rfl, q1⟩; have H2 : Box (LaK w x2 (Q0 ++ XP.take (q + 1)) v2) := ⟨q1⟩; clear q1))
          go_roundw
          case rel => exact ⟨q + 1, by omega, by go_num, H2⟩
          case measure => simp [intOf]; omega
        · have hq1 : decide ((q : Int) < (l : Int)) = false := by simp; omega
          obtain rfl : q = l := by omega
          have HE : Box (LaK w wr (allP (A.take (k + 1))) u3) := ⟨by
            rw [HAL.out]
            have := HQ.out
            rwa [List.take_of_length_le (Nat.le_of_eq HXL.out)] at this⟩
          have hwk : IntKind.i64.wrap ((k : Int) + 1) = ((k + 1 : Nat) : Int) := by have := HK.out; have := HN.out.2.1; rw [IntKind.wrap_i64]; omega
          clear HQ hT
          go_wp2_with (refine atIdx 28 ?_; refine wpList_run rfl _ _ (exec_idxT 28 26 Tryd.underlying28 1 infoSlIz _ _ rfl b o n cap k rfl rfl HK.out) ?_; (try rw [Nat.mul_one]))
          go_roundw
          case rel => exact ⟨k + 1, by have := HK.out; omega, by go_num, HE⟩
          case measure => have := HK.out; simp [intOf]; omega
    · have hlt1 : decide ((k : Int) < (n : Int)) = false := by simp; omega
      obtain rfl : k = n := by omega
      have HE : Box (LaK w wo (allP A) u3) := ⟨by have := HG.out; rwa [List.take_of_length_le (Nat.le_of_eq HN.out.1)] at this⟩
      go_wp2
      go_ret
      exact ⟨_, rfl, HE.out⟩
end Go.Proofs.YteaejodihmnbcaaDoor
namespace Go.Proofs.YteaejodihmnbcaaDoor
set_option maxRecDepth 100000
set_option linter.unusedVariables false
open Go.RowKit Plain
/-- Behind k changes of at most m images each. -/
structure Bq (K : List Int) (f n N m k : Nat) (j : Jt) (d : Disk.Dk) (X : List (List (Int × List Int))) : Prop where
  key : j.key = K
  first : j.first = f
  size : j.size = n
  lim : j.lim = 1099511627776
  nx : j.nx ≤ 1 + ((m * k : Nat) : Int)
  ct : j.st.count ≤ m * k
  up : Up d
  dn : d.n = N
  ops : d.ops.length ≤ m * k
  uw : d.uw.length ≤ m * k
  left : 0 ≤ d.left ∧ d.left ≤ 9223372036854775807
  jn : Jn d K f n j.st ((X.map ofP).flatten)
  ne : ∀ x ∈ X, x ≠ []
  okS : OkS j.st
  sl : j.st.start < n
theorem Bq.step {K : List Int} {f n N m k : Nat} {j : Jt} {d : Disk.Dk} {X : List (List (Int × List Int))} (h : Bq K f n N m k j d X) (ok : j.Ok) (L : List (Int × List Int)) (h0 : L ≠ []) (hm : L.length ≤ m) (hL : ∀ x ∈ L, x.2.length = 160 ∧ Byt x.2 ∧ N64 x.1) (hcap : m * (k + 1) ≤ n) (hn : n ≤ 1000) :
    (appM j d L).2.2.1 = 0 ∧ OkS (appM j d L).2.2.2 ∧ (1 ≤ (appM j d L).2.1 ∧ (appM j d L).2.1 ≤ 18446744073709551615) ∧ Bq K f n N m (k + 1) (adp { j with nx := (appM j d L).2.1 } (appM j d L).2.2.2 1099511627776) (appM j d L).1 (X ++ [L]) := by
  have hb : bad L = false := by
    simp only [bad, Bool.or_eq_false_iff, List.isEmpty_eq_false_iff, List.any_eq_false, decide_eq_true_eq]
    exact ⟨h0, fun x hx hne => hne (hL x hx).1⟩
  have hmk : m * (k + 1) = m * k + m := Nat.mul_succ m k
  have hct := h.ct
  have hnx := h.nx
  have h1 : j.st.count + L.length ≤ j.size := by rw [h.size]; omega
  have h2 : j.nx + (L.length : Int) ≤ j.lim := by rw [h.lim]; omega
  have hu := appM_up j ok d L h.up hb h1 h2
  have hjn : Jn d j.key j.first j.size j.st ((X.map ofP).flatten) := by rw [h.key, h.first, h.size]; exact h.jn
  have hj := jn_appM j ok d L h.up hb h1 h2 hL hjn
  rw [h.key, h.first, h.size] at hj
  have hst : j.st.start < n := by have := ok.sl; rw [h.size] at this; exact this
  generalize appM j d L = y at hu hj
  obtain ⟨y1, y2, y3, y4⟩ := y
  have e3 : y3 = 0 := hu.er
  have e2 : y2 = j.nx + (L.length : Int) := hu.nx
  have e5 : y4.start = j.st.start := hu.st
  have e6 : y4.count = j.st.count + L.length := hu.ct
  have hok : OkS y4 := hu.okS (by omega) (by omega)
  have hx1 := ok.nx
  have hmay : may ({ j with nx := y2 } : Jt).size y4 = true := by
    show may j.size y4 = true
    simp only [may, Bool.and_eq_true, decide_eq_true_eq]
    rw [e5, e6]
    exact ⟨by rw [h.size]; exact hst, h1⟩
  have ea : adp { j with nx := y2 } y4 1099511627776 = { j with nx := y2, st := y4, lim := 1099511627776 } := by
    unfold adp
    rw [if_pos hmay]
    rfl
  refine ⟨e3, hok, ⟨by show 1 ≤ y2; omega, by show y2 ≤ _; omega⟩, ?_⟩
  show Bq K f n N m (k + 1) (adp { j with nx := y2 } y4 1099511627776) y1 (X ++ [L])
  rw [ea]
  refine ⟨h.key, h.first, h.size, rfl, ?_, ?_, hu.up, hu.nn.trans h.dn, ?_, ?_, ?_, ?_, fun x hx => ?_, hok, ?_⟩
  · show y2 ≤ _
    omega
  · show y4.count ≤ _
    omega
  · have := hu.ops
    have h3 := h.ops
    show y1.ops.length ≤ _
    rw [this]
    simp [pls]
    omega
  · obtain ⟨W, hW, hW2⟩ := hu.uw
    have h3 := h.uw
    have := congrArg List.length hW2
    show y1.uw.length ≤ _
    rw [hW]
    simp [pls] at this ⊢
    omega
  · have := hu.left
    show 0 ≤ y1.left ∧ y1.left ≤ _
    rw [this]
    exact h.left
  · rw [List.map_append, List.flatten_append]
    simpa using hj
  · rcases List.mem_append.1 hx with hx | hx
    · exact h.ne x hx
    · simp only [List.mem_cons, List.not_mem_nil, or_false] at hx
      rw [hx]; exact h0
  · show y4.start < n
    omega
theorem bq_start (K : List Int) (f n N m st : Nat) (hst : st < n) (hn : n ≤ 1000) (hN : N ≤ 4096) : Bq K f n N m 0 ⟨K, f, n, ⟨st, 0, z32⟩, 1, 1099511627776⟩ (Disk.dk0 N) [] :=
  ⟨rfl, rfl, rfl, rfl, by simp, by simp, ⟨rfl, rfl⟩, rfl, by simp [Disk.dk0], by simp [Disk.dk0], ⟨by show (0 : Int) ≤ 0; decide, by show (0 : Int) ≤ 9223372036854775807; decide⟩, jn_nil _ _ _ _ _, fun x hx => by simp at hx, ⟨len_z32, byt_z32, by show st ≤ _; omega, by show (0 : Nat) ≤ _; omega⟩, hst⟩
/-- Nothing of theirs is the disk's, or the journal's. -/
def Clr (fp : Nat → Prop) (J : Nat) (u : Value) (Wn : List Wx) : Prop := (∀ g, u.ownBlock = some g → ¬ fp g ∧ g ≠ J) ∧ ∀ x ∈ Wn, ∀ g, (Value.slice x.a x.l x.c).ownBlock = some g → ¬ fp g ∧ g ≠ J
theorem Wnt.fw {w w' : World} {B J : Nat} {u : Value} {Wn : List Wx} {fp fp' : Nat → Prop} (h : Wnt w B u Wn) (hn : Clr fp J u Wn) (hf : Fw (fun k => k = J) w w' fp fp') : Wnt w' B u Wn ∧ Clr fp' J u Wn := by
  refine ⟨⟨own_same h.row (fun k hk => hf.block (h.row.lt k hk).2 (hn.1 k hk).1 (hn.1 k hk).2), fun x hx => ⟨(h.im x hx).1, own_same (h.im x hx).2 (fun k hk => hf.block ((h.im x hx).2.lt k hk).2 (hn.2 x hx k hk).1 (hn.2 x hx k hk).2)⟩⟩, fun g hg => ⟨hf.k g (h.row.lt g hg).2 (hn.1 g hg).1, (hn.1 g hg).2⟩, fun x hx g hg => ⟨hf.k g ((h.im x hx).2.lt g hg).2 (hn.2 x hx g hg).1, (hn.2 x hx g hg).2⟩⟩
/-- Where a row of another's turns. -/
theorem JC.grown {w0 w w' : World} {J D : Nat} {fp : Nat → Prop} {j : Jt} {d : Disk.Dk} {row : Option Nat} (h : JC w0 w J D fp j d) (hg : w.grownBy w' row) (hn : ∀ g, row = some g → ¬ fp g ∧ g ≠ J ∧ w0.heap.size ≤ g) : JC w0 w' J D fp j d :=
  ⟨cx_grown h.cx hg (fun g e => ⟨(hn g e).1, (hn g e).2.2⟩), (hg.block J h.lt (fun e => (hn J e.symm).2.1 rfl)).trans h.row, h.lo, h.nJ, h.ok, h.fit, h.dig, h.tab⟩
/-- All that is so behind k changes. -/
structure BkW (w0 wr : World) (S J D : Nat) (K : List Int) (f n N m k : Nat) (fp : Nat → Prop) (j : Jt) (d : Disk.Dk) (X : List (List (Int × List Int))) (u : Value) (Wn : List Wx) : Prop where
  jc : JC w0 wr J D fp j d
  bq : Bq K f n N m k j d X
  wn : Wnt wr w0.heap.size u Wn
  clr : Clr fp J u Wn
  wp : Wn.map (·.P) = X
  key : wr.heap[S]? = some (.cells (u8s K) 39 (0, 0))
  sl : S < w0.heap.size
theorem BkW.wl {w0 wr : World} {S J D : Nat} {K : List Int} {f n N m k : Nat} {fp : Nat → Prop} {j : Jt} {d : Disk.Dk} {X : List (List (Int × List Int))} {u : Value} {Wn : List Wx} (h : BkW w0 wr S J D K f n N m k fp j d X u Wn) : Wn.length = X.length := by
  have := congrArg List.length h.wp
  simpa using this
/-- Nothing of the footprint lies below. -/
theorem BkW.keyf {w0 wr w' : World} {S J D : Nat} {K : List Int} {f n N m k : Nat} {fp fp' : Nat → Prop} {j : Jt} {d : Disk.Dk} {X : List (List (Int × List Int))} {u : Value} {Wn : List Wx} (h : BkW w0 wr S J D K f n N m k fp j d X u Wn) (hf : Fw (fun k => k = J) wr w' fp fp') : w'.heap[S]? = some (.cells (u8s K) 39 (0, 0)) := by
  have hs := h.sl
  have h1 := h.jc.cx.bel.size
  have h2 := h.jc.lo
  exact (hf.block (by omega) (fun hk => by have := h.jc.cx.lo S hk; omega) (by omega)).trans h.key
/-- One change more. -/
theorem BkW.step {w0 wr x w' : World} {S J D : Nat} {K : List Int} {f n N m k : Nat} {fp fp' : Nat → Prop} {j j' : Jt} {d d' : Disk.Dk} {X : List (List (Int × List Int))} {u u' : Value} {Wn : List Wx} (h : BkW w0 wr S J D K f n N m k fp j d X u Wn) (hf : Fw (fun k => k = J) wr x fp fp') (hj : JC w0 x J D fp' j' d') (L : List (Int × List Int)) (hb : Bq K f n N m (k + 1) j' d' (X ++ [L]))
    (y : World) (hy : Below x.heap.size x y) (a : Option Addr) (l c : Nat) (hl : L.length = l) (hm : y.ownsRow x.heap.size 60 2 (.slice a l c) l (L.map ic).flatten) (ho : w'.ownsRow w0.heap.size 26 1 u' (Wn.length + 1) ((Wn.map wsl).flatten ++ [.slice a l c])) (hg : y.grownBy w' u.ownBlock) (hv : ∀ k, u'.ownBlock = some k → u.ownBlock = some k ∨ y.heap.size ≤ k) : BkW w0 w' S J D K f n N m (k + 1) fp' j' d' (X ++ [L]) u' (Wn ++ [⟨a, l, c, L⟩]) := by
  obtain ⟨w1, c1⟩ := h.wn.fw h.clr hf
  have w2 := w1.to hy
  have hjy := hj.below hy
  have hxs := hf.size
  have hw0 := h.jc.cx.bel.size
  have hys := hy.size
  have hJx := hj.lt
  have hi := hj.cx.hi
  refine ⟨hjy.grown hg (fun g e => ⟨(c1.1 g e).1, (c1.1 g e).2, (own_blk w1.row g e).1⟩), hb, w2.app a l c L hl (own_low2 hm (by omega)) ho hg, ⟨fun g hg' => ?_, fun z hz g hg' => ?_⟩, ?_, ?_, h.sl⟩
  · rcases hv g hg' with e | e
    · exact c1.1 g e
    · exact ⟨fun hk => by have := hi g hk; omega, by omega⟩
  · rcases List.mem_append.1 hz with hz | hz
    · exact c1.2 z hz g hg'
    · simp only [List.mem_cons, List.not_mem_nil, or_false] at hz
      subst hz
      have := (own_blk hm g hg').1
      exact ⟨fun hk => by have := hi g hk; omega, by omega⟩
  · rw [List.map_append, h.wp]
    rfl
  · have hk := h.keyf hf
    have hlS : S < x.heap.size := (Array.getElem?_eq_some_iff.1 hk).1
    have nS : ¬ some S = u.ownBlock := fun e => by
      have := (own_blk h.wn.row S e.symm).1
      have := h.sl
      omega
    exact (hg.block S (by omega) nS).trans ((hy.block S hlS).trans hk)
end Go.Proofs.YteaejodihmnbcaaDoor
namespace Go.Proofs.YteaejodihmnbcaaDoor
set_option maxRecDepth 100000
set_option linter.unusedVariables false
open Go.RowKit Plain
def sb0 : List Int := [230, 31, 16, 2, 208, 104, 160, 50, 139, 113, 218, 67, 230, 116, 236, 215, 205, 132, 85, 43, 0, 221, 211, 1, 189, 29, 21, 61, 12, 128, 157, 220, 77, 249, 189, 197, 50, 155, 143, 187, 71, 192, 234, 251, 222, 142, 90, 118, 134, 7, 73, 101, 215, 103, 28, 111, 116, 170, 5, 110, 210, 73, 254, 107]
def sb1 : List Int := [22, 86, 16, 69, 241, 125, 142, 220, 69, 116, 96, 55, 51, 30, 92, 115, 252, 191, 134, 132, 255, 28, 234, 13, 191, 75, 165, 12, 3, 129, 135, 220, 59, 251, 157, 149, 124, 219, 118, 9, 115, 95, 16, 120, 206, 100, 14, 182, 152, 81, 213, 207, 179, 2, 120, 30, 23, 46, 174, 83, 170, 138, 18, 54]
def sb2 : List Int := [231, 16, 77, 196, 103, 183, 39, 175, 169, 138, 2, 175, 8, 81, 117, 161, 30, 4, 234, 40, 233, 216, 54, 31, 77, 172, 170, 223, 77, 150, 21, 213, 222, 41, 172, 54, 3, 245, 221, 154, 226, 206, 196, 86, 252, 59, 213, 2, 53, 49, 198, 153, 58, 221, 92, 121, 22, 168, 36, 150, 89, 198, 56, 151]
theorem blk_0 : Seal.Plain.blk k1 0 (Seal.Plain.non 0 1) = sb0 := by decide +kernel
theorem blk_1 : Seal.Plain.blk k1 1 (Seal.Plain.non 0 1) = sb1 := by decide +kernel
theorem blk_2 : Seal.Plain.blk k1 2 (Seal.Plain.non 0 1) = sb2 := by decide +kernel
def sbb : List Int := sb0 ++ (sb1 ++ sb2)
theorem stm_k1 (i : Nat) (h : i < 192) : Seal.Plain.stm k1 0 (Seal.Plain.non 0 1) i = sbb.getD i 0 := by
  unfold Seal.Plain.stm
  have l0 : sb0.length = 64 := rfl
  have l1 : sb1.length = 64 := rfl
  have hd : i / 64 = 0 ∨ i / 64 = 1 ∨ i / 64 = 2 := by omega
  rcases hd with hd | hd | hd
  · rw [hd, show ((0 : Int) + ((0 : Nat) : Int)) % 4294967296 = 0 by decide, blk_0, show i % 64 = i by omega]
    unfold sbb
    rw [getD_app_left _ _ _ (by omega)]
  · rw [hd, show ((0 : Int) + ((1 : Nat) : Int)) % 4294967296 = 1 by decide, blk_1]
    unfold sbb
    rw [getD_app, if_neg (by omega), getD_app_left _ _ _ (by omega)]
    congr 1
    omega
  · rw [hd, show ((0 : Int) + ((2 : Nat) : Int)) % 4294967296 = 2 by decide, blk_2]
    unfold sbb
    rw [getD_app, if_neg (by omega), getD_app, if_neg (by omega)]
    congr 1
    omega
theorem cr_k1 (B : List Int) : ∀ n, n ≤ 192 → Seal.Plain.cr k1 0 (Seal.Plain.non 0 1) B n = (List.range n).map (fun i => Seal.Plain.xr (B.getD i 0) (sbb.getD i 0))
  | 0, _ => rfl
  | n + 1, h => by
    rw [Seal.Plain.cr, cr_k1 B n (by omega), stm_k1 n (by omega), List.range_succ, List.map_append]
    rfl
def tb1 : List Int := padTo (bytesOf 1 8 ++ (List.range 176).map (fun i => Seal.Plain.xr ((putP ((3, z160), true)).getD i 0) (sbb.getD i 0))) 192
theorem slt_k1 : slt k1 0 1 ((3, z160), true) = tb1 := by
  unfold slt Seal.sl
  rw [len_putP ((3, z160), true) len_z160, cr_k1 _ 176 (by omega)]
  rfl
theorem link_tb : lnk z32 0 tb1 ≠ z32 := by decide +kernel
theorem link_one : lnk z32 0 (slt k1 0 1 ((3, z160), true)) ≠ z32 := by
  rw [slt_k1]
  exact link_tb
end Go.Proofs.YteaejodihmnbcaaDoor
namespace Go.Proofs.YteaejodihmnbcaaDoor
set_option maxRecDepth 100000
set_option linter.unusedVariables false
open Go.RowKit Go.Shelf Go.Lib Go.Sort Plain
shelf_lay_g SlLaysF0.n6 Slsf 6 at Tryd 22 as laysIm
theorem renIm : laysIm_ren.f 6 = 22 := by kernel_rfl
instance : Inhabited Im := ⟨⟨0, none, 0, 0, []⟩⟩
def cmpI (x y : Im) : Int := if x.blk < y.blk then -1 else if y.blk < x.blk then 1 else 0
theorem lt_cmpI (x y : Im) : ltOf cmpI x y = decide (x.blk < y.blk) := by
  unfold ltOf cmpI
  by_cases h1 : x.blk < y.blk
  · simp [h1]
  · by_cases h2 : y.blk < x.blk <;> simp [h1, h2]
theorem swo_cmpI : SWO (ltOf cmpI) where
  irrefl x := by rw [lt_cmpI]; simp
  trans x y z h1 h2 := by rw [lt_cmpI] at *; simp at *; omega
  ntrans x y z h1 h2 := by rw [lt_cmpI] at *; simp at *; omega
theorem isNaN_any (x : Int) (w : World) : Calls Tryd.prog 41 #[.int .u64 x] w fun e w' => e = .returned (.bool false) ∧ w = w' := by
  go_enter Tryd.func41, Tryd.ntmps41
  go_wp2
  go_ret
  exact ⟨by simp, rfl⟩
theorem compare_any (x y : Int) (w : World) : Calls Tryd.prog 24 #[.int .u64 x, .int .u64 y] w fun e w' => e = .returned (.int .i64 (if x < y then -1 else if y < x then 1 else 0)) ∧ w = w' := by
  have HN : Box (∀ z w, Calls Tryd.prog 41 #[.int .u64 z] w fun e w' => e = .returned (.bool false) ∧ w = w') := ⟨isNaN_any⟩
  by_cases h1 : x < y
  · rw [if_pos h1]
    go_enter Tryd.func24, Tryd.ntmps24
    go_wp2_with (go_at_call 41; refine (HN.out _ _).mono ?_; rintro e w' ⟨rfl, rfl⟩)
    go_ret
    exact ⟨rfl, rfl⟩
  · rw [if_neg h1]
    by_cases h2 : y < x
    · rw [if_pos h2]
      go_enter Tryd.func24, Tryd.ntmps24
      go_wp2_with (go_at_call 41; refine (HN.out _ _).mono ?_; rintro e w' ⟨rfl, rfl⟩)
      go_ret
      exact ⟨rfl, rfl⟩
    · rw [if_neg h2]
      go_enter Tryd.func24, Tryd.ntmps24
      go_wp2_with (go_at_call 41; refine (HN.out _ _).mono ?_; rintro e w' ⟨rfl, rfl⟩)
      go_ret
      exact ⟨rfl, rfl⟩
set_option maxHeartbeats 1000000 in
theorem clos_any (x y : Im) (W : World) : Calls Tryd.prog 23 #[.agg (imc x).toArray, .agg (imc y).toArray] W fun e w' => e = .returned (.int .i64 (cmpI x y)) ∧ ∃ q os', w' = grow (W.drewN q) os' := by
  have hcon := fun W' => compare_any x.blk y.blk W'
  have e : cmpI x y = (if x.blk < y.blk then -1 else if y.blk < x.blk then 1 else 0) := rfl
  rw [e]
  obtain ⟨xb, xa, xl, xc, xs⟩ := x
  obtain ⟨yb, ya, yl, yc, ys⟩ := y
  simp only [imc] at hcon ⊢
  generalize (if xb < yb then (-1 : Int) else if yb < xb then 1 else 0) = r at hcon ⊢
  have HC : Box _ := ⟨hcon⟩
  clear hcon e
  go_enter Tryd.func23, Tryd.ntmps23
  go_wp2_with (go_at_call 24; refine (HC.out _).mono ?_; rintro e w' ⟨rfl, rfl⟩)
  go_ret
  exact ⟨rfl, 0, _, by rw [alloc_eq_grow, alloc_eq_grow, grow_grow]; rfl⟩
theorem flatK_imc (d : Array Im) : (flatK imc 2 d).toList = (d.toList.map imc).flatten := by
  apply List.ext_getElem?
  intro t
  by_cases ht : t < d.size * 2
  · have h1 : (flatK imc 2 d)[t]! = (imc d[t / 2]!)[t % 2]! := get_flatK imc 2 d t ht
    have hi : t / 2 < d.toList.length := by simp; omega
    have h2 := flat_get imc 2 (fun _ => rfl) d.toList (t / 2) hi (t % 2) (by omega)
    rw [show t / 2 * 2 + t % 2 = t by omega] at h2
    have h3 : t < (flatK imc 2 d).size := by rw [size_flatK]; exact ht
    have h5 : t / 2 < d.size := by omega
    rw [h2, Array.getElem?_toList, Array.getElem?_eq_getElem h3]
    rw [getElem!_pos (flatK imc 2 d) t h3] at h1
    rw [h1, getElem!_pos d (t / 2) h5]
    have h4 : t % 2 < (imc d[t / 2]).length := by simp [imc]; omega
    rw [getElem!_pos (imc d[t / 2]) (t % 2) h4]
    simp
  · rw [List.getElem?_eq_none (by simp; omega), List.getElem?_eq_none (by rw [flat_len imc 2 (fun _ => rfl)]; simp; omega)]
theorem take_put (cur F : Array Value) (h : F.size ≤ cur.size) : (putCells id 0 F cur).toList.take F.size = F.toList := by
  apply List.ext_getElem?
  intro j
  by_cases hj : j < F.size
  · rw [List.getElem?_take_of_lt hj, Array.getElem?_toList, Array.getElem?_toList]
    simp [putCells, hj, show j < cur.size by omega]
  · rw [List.getElem?_take_eq_none (by omega), List.getElem?_eq_none (by simp; omega)]
/-- By rising numbers. -/
theorem sortIm_v {w : World} {B : Nat} {v : Value} {Y : List Im} (h : OImgs w B v Y) (hv : v ≠ .slice none 0 0) (hl : Y.length < 4611686018427387904) :
    Calls Tryd.prog 22 #[v, .func (.func 23) #[] #[]] w fun e w' => e = .returned (.tuple #[]) ∧ ∃ Y', Y'.Perm Y ∧ Y'.Pairwise (fun a b => a.blk ≤ b.blk) ∧ OImgs w' B v Y' ∧ w.grownBy w' v.ownBlock := by
  rcases h.row.2 with ⟨e0, _⟩ | ⟨g, cap, cur, rfl, hb, hg, h1, h2, h3, h4⟩
  · exact absurd e0 hv
  have hgl : g < w.heap.size := (Array.getElem?_eq_some_iff.1 hg).1
  have hYs : (Y.toArray : Array Im).size = Y.length := by simp
  have hF : (flatK imc 2 Y.toArray).toList = (Y.map imc).flatten := flatK_imc _
  have hH : HoldsK imc 2 w g 0 Y.toArray := fun j hj => by
    refine ⟨?_, frozen_of_row w g _ _ _ hg⟩
    have hj2 : j < (flatK imc 2 Y.toArray).toList.length := by simpa using hj
    rw [cell_of_row _ _ _ _ _ _ hg, Nat.zero_add, getElem!_pos _ j (by simpa using hj)]
    have e1 : (cur.toList.take (Y.length * 2))[j]? = (flatK imc 2 Y.toArray).toList[j]? := by rw [hF]; exact congrArg (fun l => l[j]?) h4
    have hj3 : j < Y.length * 2 := by simpa using hj
    rw [List.getElem?_take_of_lt hj3] at e1
    rw [← Array.getElem?_toList, e1, List.getElem?_eq_getElem hj2]
    simp
  have eg : ∀ args w, (callFunc 23 args).run Tryd.prog w = .ok (.enter 23 args) w := enters_of Tryd.func23 (by kernel_rfl) rfl
  have hcon := AnyQ.slices_SortFunc laysIm 2 Tryd.isAgg36 Tryd.sizeOf36 imc (fun _ => rfl) one_imc cmpI swo_cmpI 23 #[] g 0 cap Y.toArray w eg (fun _ _ _ _ x y => clos_any x y _) hH hgl (by simpa using hl)
  rw [renIm] at hcon
  rw [hYs] at hcon
  refine hcon.mono ?_
  rintro e w' ⟨rfl, d', n, os, hp, hs, rfl⟩
  have hsz : d'.size = Y.length := by rw [hp.1, hYs]
  have hperm : d'.toList.Perm Y := by
    have := hp.2.2
    rw [show d'.extract 0 Y.length = d' by rw [← hsz]; simp, show (Y.toArray).extract 0 Y.length = Y.toArray by simp] at this
    simpa using this
  have hgr : w.grownBy (sortWorldK imc 2 w g 0 n d' os) (some g) := by
    refine ⟨rfl, rfl, rfl, by simp [sortWorldK, putRowK], fun k hk hne => ?_⟩
    unfold sortWorldK putRowK
    rw [heap_grow_old _ _ (by simpa using hk)]
    have : g ≠ k := fun e => hne (by rw [e])
    simp [putRow, mapBlock, Sort.ahead, Array.getElem?_modify, this]
  have hrow : (sortWorldK imc 2 w g 0 n d' os).heap[g]? = some (.cells (putCells id 0 (flatK imc 2 d') cur) 36 (0, 0)) := by
    unfold sortWorldK putRowK
    rw [heap_grow_old _ _ (by simpa using hgl)]
    simp [putRow, mapBlock, Sort.ahead, Array.getElem?_modify, hg, onCells]
  refine ⟨rfl, d'.toList, hperm, ?_, ⟨?_, fun m hm => ?_⟩, hgr⟩
  · rw [List.pairwise_iff_getElem]
    intro i j hi hj hij
    have hi' : i < d'.size := by simpa using hi
    have hj' : j < d'.size := by simpa using hj
    have := hs i j (Nat.zero_le _) hij (by rw [← hsz]; exact hj')
    rw [lt_cmpI, getElem!_pos d' i hi', getElem!_pos d' j hj'] at this
    simp only [decide_eq_false_iff_not] at this
    simp only [Array.getElem_toList]
    omega
  · have hsf : (flatK imc 2 d').size = Y.length * 2 := by rw [size_flatK, hsz]
    have hle : Y.length * 2 ≤ cur.size := by rw [h3]; exact Nat.mul_le_mul_right 2 h1
    have e1 : d'.toList.length = Y.length := by simpa using hsz
    rw [e1]
    refine ⟨by rw [flat_len imc 2 (fun _ => rfl), e1], .inr ⟨g, cap, _, rfl, hb, hrow, h1, h2, by simp [putCells, h3], ?_⟩⟩
    rw [← hsf, take_put _ _ (by omega), flatK_imc]
  · have o := h.byt m (hperm.mem_iff.1 hm)
    exact o.grown h.row (by decide) hgr
end Go.Proofs.YteaejodihmnbcaaDoor
