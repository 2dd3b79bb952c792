/-
  A journal to which changes are appended and adopted, one behind the other: plainly; and what is wanted beside it in memory. And what follows it.
-/
import Derived.Test.YteaejodihmnbcaaDoorK33
import Derived.Test.YteaejodihmnbcaaDoorK20
import Derived.Test.YteaejodihmnbcaaDoorK32
import Derived.MapKept
import Derived.Maps.RangeWalk
import Derived.Test.YteaejodihmnbcaaDoorK18
namespace Go.Proofs.YteaejodihmnbcaaDoor
set_option maxRecDepth 100000
set_option linter.unusedVariables false
open Go.RowKit Plain
/-- Behind k changes of at most m images each. -/
structure Bq (K : List Int) (f n N m k : Nat) (j : Jt) (d : Disk.Dk) (X : List (List (Int × List Int))) : Prop where
  key : j.key = K
  first : j.first = f
  size : j.size = n
  lim : j.lim = 1099511627776
  nx : j.nx ≤ 1 + ((m * k : Nat) : Int)
  ct : j.st.count ≤ m * k
  up : Up d
  dn : d.n = N
  ops : d.ops.length ≤ m * k
  uw : d.uw.length ≤ m * k
  left : 0 ≤ d.left ∧ d.left ≤ 9223372036854775807
  jn : Jn d K f n j.st ((X.map ofP).flatten)
  ne : ∀ x ∈ X, x ≠ []
  okS : OkS j.st
  sl : j.st.start < n
theorem Bq.step {K : List Int} {f n N m k : Nat} {j : Jt} {d : Disk.Dk} {X : List (List (Int × List Int))} (h : Bq K f n N m k j d X) (ok : j.Ok) (L : List (Int × List Int)) (h0 : L ≠ []) (hm : L.length ≤ m) (hL : ∀ x ∈ L, x.2.length = 160 ∧ Byt x.2 ∧ N64 x.1) (hcap : m * (k + 1) ≤ n) (hn : n ≤ 1000) :
    (appM j d L).2.2.1 = 0 ∧ OkS (appM j d L).2.2.2 ∧ (1 ≤ (appM j d L).2.1 ∧ (appM j d L).2.1 ≤ 18446744073709551615) ∧ Bq K f n N m (k + 1) (adp { j with nx := (appM j d L).2.1 } (appM j d L).2.2.2 1099511627776) (appM j d L).1 (X ++ [L]) := by
  have hb : bad L = false := by
    simp only [bad, Bool.or_eq_false_iff, List.isEmpty_eq_false_iff, List.any_eq_false, decide_eq_true_eq]
    exact ⟨h0, fun x hx hne => hne (hL x hx).1⟩
  have hmk : m * (k + 1) = m * k + m := Nat.mul_succ m k
  have hct := h.ct
  have hnx := h.nx
  have h1 : j.st.count + L.length ≤ j.size := by rw [h.size]; omega
  have h2 : j.nx + (L.length : Int) ≤ j.lim := by rw [h.lim]; omega
  have hu := appM_up j ok d L h.up hb h1 h2
  have hjn : Jn d j.key j.first j.size j.st ((X.map ofP).flatten) := by rw [h.key, h.first, h.size]; exact h.jn
  have hj := jn_appM j ok d L h.up hb h1 h2 hL hjn
  rw [h.key, h.first, h.size] at hj
  have hst : j.st.start < n := by have := ok.sl; rw [h.size] at this; exact this
  generalize appM j d L = y at hu hj
  obtain ⟨y1, y2, y3, y4⟩ := y
  have e3 : y3 = 0 := hu.er
  have e2 : y2 = j.nx + (L.length : Int) := hu.nx
  have e5 : y4.start = j.st.start := hu.st
  have e6 : y4.count = j.st.count + L.length := hu.ct
  have hok : OkS y4 := hu.okS (by omega) (by omega)
  have hx1 := ok.nx
  have hmay : may ({ j with nx := y2 } : Jt).size y4 = true := by
    show may j.size y4 = true
    simp only [may, Bool.and_eq_true, decide_eq_true_eq]
    rw [e5, e6]
    exact ⟨by rw [h.size]; exact hst, h1⟩
  have ea : adp { j with nx := y2 } y4 1099511627776 = { j with nx := y2, st := y4, lim := 1099511627776 } := by
    unfold adp
    rw [if_pos hmay]
    rfl
  refine ⟨e3, hok, ⟨by show 1 ≤ y2; omega, by show y2 ≤ _; omega⟩, ?_⟩
  show Bq K f n N m (k + 1) (adp { j with nx := y2 } y4 1099511627776) y1 (X ++ [L])
  rw [ea]
  refine ⟨h.key, h.first, h.size, rfl, ?_, ?_, hu.up, hu.nn.trans h.dn, ?_, ?_, ?_, ?_, fun x hx => ?_, hok, ?_⟩
  · show y2 ≤ _
    omega
  · show y4.count ≤ _
    omega
  · have := hu.ops
    have h3 := h.ops
    show y1.ops.length ≤ _
    rw [this]
    simp [pls]
    omega
  · obtain ⟨W, hW, hW2⟩ := hu.uw
    have h3 := h.uw
    have := congrArg List.length hW2
    show y1.uw.length ≤ _
    rw [hW]
    simp [pls] at this ⊢
    omega
  · have := hu.left
    show 0 ≤ y1.left ∧ y1.left ≤ _
    rw [this]
    exact h.left
  · rw [List.map_append, List.flatten_append]
    simpa using hj
  · rcases List.mem_append.1 hx with hx | hx
    · exact h.ne x hx
    · simp only [List.mem_cons, List.not_mem_nil, or_false] at hx
      rw [hx]; exact h0
  · show y4.start < n
    omega
theorem bq_start (K : List Int) (f n N m st : Nat) (hst : st < n) (hn : n ≤ 1000) (hN : N ≤ 4096) : Bq K f n N m 0 ⟨K, f, n, ⟨st, 0, z32⟩, 1, 1099511627776⟩ (Disk.dk0 N) [] :=
  ⟨rfl, rfl, rfl, rfl, by simp, by simp, ⟨rfl, rfl⟩, rfl, by simp [Disk.dk0], by simp [Disk.dk0], ⟨by show (0 : Int) ≤ 0; decide, by show (0 : Int) ≤ 9223372036854775807; decide⟩, jn_nil _ _ _ _ _, fun x hx => by simp at hx, ⟨len_z32, byt_z32, by show st ≤ _; omega, by show (0 : Nat) ≤ _; omega⟩, hst⟩
/-- Nothing of theirs is the disk's, or the journal's. -/
def Clr (fp : Nat → Prop) (J : Nat) (u : Value) (Wn : List Wx) : Prop := (∀ g, u.ownBlock = some g → ¬ fp g ∧ g ≠ J) ∧ ∀ x ∈ Wn, ∀ g, (Value.slice x.a x.l x.c).ownBlock = some g → ¬ fp g ∧ g ≠ J
theorem Wnt.fw {w w' : World} {B J : Nat} {u : Value} {Wn : List Wx} {fp fp' : Nat → Prop} (h : Wnt w B u Wn) (hn : Clr fp J u Wn) (hf : Fw (fun k => k = J) w w' fp fp') : Wnt w' B u Wn ∧ Clr fp' J u Wn := by
  refine ⟨⟨own_same h.row (fun k hk => hf.block (h.row.lt k hk).2 (hn.1 k hk).1 (hn.1 k hk).2), fun x hx => ⟨(h.im x hx).1, own_same (h.im x hx).2 (fun k hk => hf.block ((h.im x hx).2.lt k hk).2 (hn.2 x hx k hk).1 (hn.2 x hx k hk).2)⟩⟩, fun g hg => ⟨hf.k g (h.row.lt g hg).2 (hn.1 g hg).1, (hn.1 g hg).2⟩, fun x hx g hg => ⟨hf.k g ((h.im x hx).2.lt g hg).2 (hn.2 x hx g hg).1, (hn.2 x hx g hg).2⟩⟩
/-- Where a row of another's turns. -/
theorem JC.grown {w0 w w' : World} {J D : Nat} {fp : Nat → Prop} {j : Jt} {d : Disk.Dk} {row : Option Nat} (h : JC w0 w J D fp j d) (hg : w.grownBy w' row) (hn : ∀ g, row = some g → ¬ fp g ∧ g ≠ J ∧ w0.heap.size ≤ g) : JC w0 w' J D fp j d :=
  ⟨cx_grown h.cx hg (fun g e => ⟨(hn g e).1, (hn g e).2.2⟩), (hg.block J h.lt (fun e => (hn J e.symm).2.1 rfl)).trans h.row, h.lo, h.nJ, h.ok, h.fit, h.dig, h.tab⟩
/-- All that is so behind k changes. -/
structure BkW (w0 wr : World) (S J D : Nat) (K : List Int) (f n N m k : Nat) (fp : Nat → Prop) (j : Jt) (d : Disk.Dk) (X : List (List (Int × List Int))) (u : Value) (Wn : List Wx) : Prop where
  jc : JC w0 wr J D fp j d
  bq : Bq K f n N m k j d X
  wn : Wnt wr w0.heap.size u Wn
  clr : Clr fp J u Wn
  wp : Wn.map (·.P) = X
  key : wr.heap[S]? = some (.cells (u8s K) 39 (0, 0))
  sl : S < w0.heap.size
theorem BkW.wl {w0 wr : World} {S J D : Nat} {K : List Int} {f n N m k : Nat} {fp : Nat → Prop} {j : Jt} {d : Disk.Dk} {X : List (List (Int × List Int))} {u : Value} {Wn : List Wx} (h : BkW w0 wr S J D K f n N m k fp j d X u Wn) : Wn.length = X.length := by
  have := congrArg List.length h.wp
  simpa using this
/-- Nothing of the footprint lies below. -/
theorem BkW.keyf {w0 wr w' : World} {S J D : Nat} {K : List Int} {f n N m k : Nat} {fp fp' : Nat → Prop} {j : Jt} {d : Disk.Dk} {X : List (List (Int × List Int))} {u : Value} {Wn : List Wx} (h : BkW w0 wr S J D K f n N m k fp j d X u Wn) (hf : Fw (fun k => k = J) wr w' fp fp') : w'.heap[S]? = some (.cells (u8s K) 39 (0, 0)) := by
  have hs := h.sl
  have h1 := h.jc.cx.bel.size
  have h2 := h.jc.lo
  exact (hf.block (by omega) (fun hk => by have := h.jc.cx.lo S hk; omega) (by omega)).trans h.key
/-- One change more. -/
theorem BkW.step {w0 wr x w' : World} {S J D : Nat} {K : List Int} {f n N m k : Nat} {fp fp' : Nat → Prop} {j j' : Jt} {d d' : Disk.Dk} {X : List (List (Int × List Int))} {u u' : Value} {Wn : List Wx} (h : BkW w0 wr S J D K f n N m k fp j d X u Wn) (hf : Fw (fun k => k = J) wr x fp fp') (hj : JC w0 x J D fp' j' d') (L : List (Int × List Int)) (hb : Bq K f n N m (k + 1) j' d' (X ++ [L]))
    (y : World) (hy : Below x.heap.size x y) (a : Option Addr) (l c : Nat) (hl : L.length = l) (hm : y.ownsRow x.heap.size 60 2 (.slice a l c) l (L.map ic).flatten) (ho : w'.ownsRow w0.heap.size 26 1 u' (Wn.length + 1) ((Wn.map wsl).flatten ++ [.slice a l c])) (hg : y.grownBy w' u.ownBlock) (hv : ∀ k, u'.ownBlock = some k → u.ownBlock = some k ∨ y.heap.size ≤ k) : BkW w0 w' S J D K f n N m (k + 1) fp' j' d' (X ++ [L]) u' (Wn ++ [⟨a, l, c, L⟩]) := by
  obtain ⟨w1, c1⟩ := h.wn.fw h.clr hf
  have w2 := w1.to hy
  have hjy := hj.below hy
  have hxs := hf.size
  have hw0 := h.jc.cx.bel.size
  have hys := hy.size
  have hJx := hj.lt
  have hi := hj.cx.hi
  refine ⟨hjy.grown hg (fun g e => ⟨(c1.1 g e).1, (c1.1 g e).2, (own_blk w1.row g e).1⟩), hb, w2.app a l c L hl (own_low2 hm (by omega)) ho hg, ⟨fun g hg' => ?_, fun z hz g hg' => ?_⟩, ?_, ?_, h.sl⟩
  · rcases hv g hg' with e | e
    · exact c1.1 g e
    · exact ⟨fun hk => by have := hi g hk; omega, by omega⟩
  · rcases List.mem_append.1 hz with hz | hz
    · exact c1.2 z hz g hg'
    · simp only [List.mem_cons, List.not_mem_nil, or_false] at hz
      subst hz
      have := (own_blk hm g hg').1
      exact ⟨fun hk => by have := hi g hk; omega, by omega⟩
  · rw [List.map_append, h.wp]
    rfl
  · have hk := h.keyf hf
    have hlS : S < x.heap.size := (Array.getElem?_eq_some_iff.1 hk).1
    have nS : ¬ some S = u.ownBlock := fun e => by
      have := (own_blk h.wn.row S e.symm).1
      have := h.sl
      omega
    exact (hg.block S (by omega) nS).trans ((hy.block S hlS).trans hk)
end Go.Proofs.YteaejodihmnbcaaDoor
namespace Go.Proofs.YteaejodihmnbcaaDoor
set_option maxRecDepth 100000
set_option linter.unusedVariables false
open Go.RowKit Plain
def sb0 : List Int := [230, 31, 16, 2, 208, 104, 160, 50, 139, 113, 218, 67, 230, 116, 236, 215, 205, 132, 85, 43, 0, 221, 211, 1, 189, 29, 21, 61, 12, 128, 157, 220, 77, 249, 189, 197, 50, 155, 143, 187, 71, 192, 234, 251, 222, 142, 90, 118, 134, 7, 73, 101, 215, 103, 28, 111, 116, 170, 5, 110, 210, 73, 254, 107]
def sb1 : List Int := [22, 86, 16, 69, 241, 125, 142, 220, 69, 116, 96, 55, 51, 30, 92, 115, 252, 191, 134, 132, 255, 28, 234, 13, 191, 75, 165, 12, 3, 129, 135, 220, 59, 251, 157, 149, 124, 219, 118, 9, 115, 95, 16, 120, 206, 100, 14, 182, 152, 81, 213, 207, 179, 2, 120, 30, 23, 46, 174, 83, 170, 138, 18, 54]
def sb2 : List Int := [231, 16, 77, 196, 103, 183, 39, 175, 169, 138, 2, 175, 8, 81, 117, 161, 30, 4, 234, 40, 233, 216, 54, 31, 77, 172, 170, 223, 77, 150, 21, 213, 222, 41, 172, 54, 3, 245, 221, 154, 226, 206, 196, 86, 252, 59, 213, 2, 53, 49, 198, 153, 58, 221, 92, 121, 22, 168, 36, 150, 89, 198, 56, 151]
theorem blk_0 : Seal.Plain.blk k1 0 (Seal.Plain.non 0 1) = sb0 := by decide +kernel
theorem blk_1 : Seal.Plain.blk k1 1 (Seal.Plain.non 0 1) = sb1 := by decide +kernel
theorem blk_2 : Seal.Plain.blk k1 2 (Seal.Plain.non 0 1) = sb2 := by decide +kernel
def sbb : List Int := sb0 ++ (sb1 ++ sb2)
theorem stm_k1 (i : Nat) (h : i < 192) : Seal.Plain.stm k1 0 (Seal.Plain.non 0 1) i = sbb.getD i 0 := by
  unfold Seal.Plain.stm
  have l0 : sb0.length = 64 := rfl
  have l1 : sb1.length = 64 := rfl
  have hd : i / 64 = 0 ∨ i / 64 = 1 ∨ i / 64 = 2 := by omega
  rcases hd with hd | hd | hd
  · rw [hd, show ((0 : Int) + ((0 : Nat) : Int)) % 4294967296 = 0 by decide, blk_0, show i % 64 = i by omega]
    unfold sbb
    rw [getD_app_left _ _ _ (by omega)]
  · rw [hd, show ((0 : Int) + ((1 : Nat) : Int)) % 4294967296 = 1 by decide, blk_1]
    unfold sbb
    rw [getD_app, if_neg (by omega), getD_app_left _ _ _ (by omega)]
    congr 1
    omega
  · rw [hd, show ((0 : Int) + ((2 : Nat) : Int)) % 4294967296 = 2 by decide, blk_2]
    unfold sbb
    rw [getD_app, if_neg (by omega), getD_app, if_neg (by omega)]
    congr 1
    omega
theorem cr_k1 (B : List Int) : ∀ n, n ≤ 192 → Seal.Plain.cr k1 0 (Seal.Plain.non 0 1) B n = (List.range n).map (fun i => Seal.Plain.xr (B.getD i 0) (sbb.getD i 0))
  | 0, _ => rfl
  | n + 1, h => by
    rw [Seal.Plain.cr, cr_k1 B n (by omega), stm_k1 n (by omega), List.range_succ, List.map_append]
    rfl
def tb1 : List Int := padTo (bytesOf 1 8 ++ (List.range 176).map (fun i => Seal.Plain.xr ((putP ((3, z160), true)).getD i 0) (sbb.getD i 0))) 192
theorem slt_k1 : slt k1 0 1 ((3, z160), true) = tb1 := by
  unfold slt Seal.sl
  rw [len_putP ((3, z160), true) len_z160, cr_k1 _ 176 (by omega)]
  rfl
theorem link_tb : lnk z32 0 tb1 ≠ z32 := by decide +kernel
theorem link_one : lnk z32 0 (slt k1 0 1 ((3, z160), true)) ≠ z32 := by
  rw [slt_k1]
  exact link_tb
end Go.Proofs.YteaejodihmnbcaaDoor
namespace Go.Proofs.YteaejodihmnbcaaDoor
set_option maxRecDepth 100000
set_option linter.unusedVariables false
open Go.RowKit Go.MapKept Plain
open Go.ChangeMaps (setBlock)
/-- A pair put: in its place, or behind. -/
def mput {α : Type} : List (Int × α) → Int → α → List (Int × α)
  | [], i, v => [(i, v)]
  | p :: m, i, v => if p.1 = i then (i, v) :: m else p :: mput m i v
theorem mput_no {α : Type} (i : Int) (v : α) : ∀ m : List (Int × α), (∀ p ∈ m, p.1 ≠ i) → mput m i v = m ++ [(i, v)]
  | [], _ => rfl
  | p :: m, h => by
    rw [mput, if_neg (h p (by simp)), mput_no i v m (fun q hq => h q (by simp [hq]))]
    rfl
theorem mput_mid {α : Type} (i : Int) (u v : α) (B : List (Int × α)) : ∀ A : List (Int × α), (∀ p ∈ A, p.1 ≠ i) → mput (A ++ (i, u) :: B) i v = A ++ (i, v) :: B
  | [], _ => by simp [mput]
  | p :: A, h => by
    rw [List.cons_append, mput, if_neg (h p (by simp)), mput_mid i u v B A (fun q hq => h q (by simp [hq]))]
    rfl
theorem keys_mput {α : Type} (i : Int) (v : α) : ∀ m : List (Int × α), ∀ k, k ∈ (mput m i v).map Prod.fst ↔ k = i ∨ k ∈ m.map Prod.fst
  | [], k => by simp [mput]
  | p :: m, k => by
    by_cases h : p.1 = i
    · rw [mput, if_pos h]
      simp [h]
    · rw [mput, if_neg h]
      have := keys_mput i v m k
      simp only [List.map_cons, List.mem_cons, this]
      constructor
      · rintro (h | h | h)
        · exact .inr (.inl h)
        · exact .inl h
        · exact .inr (.inr h)
      · rintro (h | h | h)
        · exact .inr (.inl h)
        · exact .inl h
        · exact .inr (.inr h)
theorem nodup_mput {α : Type} (i : Int) (v : α) : ∀ m : List (Int × α), (m.map Prod.fst).Nodup → ((mput m i v).map Prod.fst).Nodup
  | [], _ => by simp [mput]
  | p :: m, h => by
    have h' := List.nodup_cons.1 h
    by_cases e : p.1 = i
    · rw [mput, if_pos e]
      simp only [List.map_cons]
      rw [← e]
      exact h
    · rw [mput, if_neg e, List.map_cons]
      refine List.nodup_cons.2 ⟨fun hk => ?_, nodup_mput i v m h'.2⟩
      rcases (keys_mput i v m p.1).1 hk with h1 | h1
      · exact e h1
      · exact h'.1 h1
theorem mem_mput {α : Type} (i : Int) (v : α) : ∀ m : List (Int × α), (m.map Prod.fst).Nodup → ∀ q, q ∈ mput m i v ↔ q = (i, v) ∨ (q.1 ≠ i ∧ q ∈ m)
  | [], _, q => by simp [mput]
  | p :: m, h, q => by
    have h' := List.nodup_cons.1 h
    by_cases e : p.1 = i
    · rw [mput, if_pos e]
      simp only [List.mem_cons]
      constructor
      · rintro (h1 | h1)
        · exact .inl h1
        · refine .inr ⟨fun e2 => h'.1 ?_, .inr h1⟩
          rw [e, ← e2]
          exact List.mem_map_of_mem h1
      · rintro (h1 | ⟨h1, h2 | h2⟩)
        · exact .inl h1
        · exact absurd (by rw [h2]; exact e) h1
        · exact .inr h2
    · rw [mput, if_neg e]
      simp only [List.mem_cons, mem_mput i v m h'.2 q]
      constructor
      · rintro (h1 | h1 | h1)
        · exact .inr ⟨by rw [h1]; exact e, .inl h1⟩
        · exact .inl h1
        · exact .inr ⟨h1.1, .inr h1.2⟩
      · rintro (h1 | ⟨h1, h2 | h2⟩)
        · exact .inr (.inl h1)
        · exact .inl h2
        · exact .inr (.inr ⟨h1, h2⟩)
theorem len_mput {α : Type} (i : Int) (v : α) : ∀ m : List (Int × α), (mput m i v).length ≤ m.length + 1
  | [] => by simp [mput]
  | p :: m => by
    rw [mput]
    split
    · simp
    · have := len_mput i v m
      simp only [List.length_cons]
      omega
def kv (p : Int × Im) : Value × Value := (.int .u64 p.1, .agg (imc p.2).toArray)
/-- Entries that are these pairs. -/
structure Mm (es : Array MapEntry) (clock : Nat) (m : List (Int × Im)) : Prop where
  kv : es.toList.map (fun e => (e.key, e.val)) = m.map kv
  nd : (m.map Prod.fst).Nodup
  bn : (es.toList.map (·.born)).Nodup
  bc : ∀ x ∈ es.toList, x.born < clock
def Mp (w : World) (b : Nat) (m : List (Int × Im)) : Prop := ∃ es clock, w.heap[b]? = some (.map es clock) ∧ Mm es clock m
theorem Mp.lt {w : World} {b : Nat} {m : List (Int × Im)} (h : Mp w b m) : b < w.heap.size := by
  obtain ⟨es, c, h1, _⟩ := h
  exact (Array.getElem?_eq_some_iff.1 h1).1
theorem Mp.same {w w' : World} {b : Nat} {m : List (Int × Im)} (h : Mp w b m) (hs : w'.heap[b]? = w.heap[b]?) : Mp w' b m := by
  obtain ⟨es, c, h1, h2⟩ := h
  exact ⟨es, c, hs.trans h1, h2⟩
theorem mp_new (w : World) : Mp (w.alloc (.map #[] 0)) w.heap.size [] := ⟨#[], 0, (heap_alloc w _).1, ⟨rfl, by simp, by simp, fun x hx => by simp at hx⟩⟩
theorem mm_find (i : Int) : ∀ (l : List MapEntry) (m : List (Int × Im)) (k : Nat), l.map (fun e => (e.key, e.val)) = m.map kv →
    (Instr.findNow (.int .u64) (.int .u64 i) l k = some none ∧ ∀ p ∈ m, p.1 ≠ i) ∨
    ∃ A v B, m = A ++ (i, v) :: B ∧ (∀ p ∈ A, p.1 ≠ i) ∧ Instr.findNow (.int .u64) (.int .u64 i) l k = some (some (k + A.length, .agg (imc v).toArray))
  | [], [], k, _ => .inl ⟨rfl, fun p hp => by cases hp⟩
  | [], p :: m, k, h => by simp at h
  | e :: l, [], k, h => by simp at h
  | e :: l, p :: m, k, h => by
    simp only [List.map_cons, List.cons.injEq, Go.Proofs.YteaejodihmnbcaaDoor.kv, Prod.mk.injEq] at h
    obtain ⟨⟨h1, h2⟩, h3⟩ := h
    by_cases hp : p.1 = i
    · refine .inr ⟨[], p.2, m, by rw [← hp]; rfl, ⟨(fun q hq => absurd hq List.not_mem_nil), ?_⟩⟩
      simp [Instr.findNow, Instr.sameNow, h1, hp, h2]
    · have hn : Instr.findNow (.int .u64) (.int .u64 i) (e :: l) k = Instr.findNow (.int .u64) (.int .u64 i) l (k + 1) := by
        have hb : (i == p.1) = false := by simpa using (fun e => hp e.symm : ¬ i = p.1)
        simp [Instr.findNow, Instr.sameNow, h1, hb]
      rcases mm_find i l m (k + 1) h3 with ⟨a, c⟩ | ⟨A, v, B, a, b, c⟩
      · refine .inl ⟨by rw [hn, a], fun q hq => ?_⟩
        rcases List.mem_cons.1 hq with rfl | hq
        · exact hp
        · exact c q hq
      · refine .inr ⟨p :: A, v, B, by rw [a]; rfl, fun q hq => ?_, ?_⟩
        · rcases List.mem_cons.1 hq with rfl | hq
          · exact hp
          · exact b q hq
        · rw [hn, c]
          simp only [List.length_cons, Nat.add_assoc, Nat.add_comm 1]
section
variable {P : Program} {t k e : TypeId}
/-- 'm[i] = v'. -/
theorem Mp.put {w : World} {b : Nat} {m : List (Int × Im)} (h : Mp w b m) (ht : P.underlying t = some (.map k e)) (hk : P.underlying k = some (.int .u64)) (i : Int) (v : Im) :
    ∃ w', (Instr.mapUpdate t (.map (some b)) (.int .u64 i) (.agg (imc v).toArray)).run P w = .ok () w' ∧ Mp w' b (mput m i v) ∧ But b w w' ∧ w'.heap.size = w.heap.size := by
  obtain ⟨es, clock, h1, hm⟩ := h
  have hkey : IsKey (.int .u64) (.int .u64 i) := by simp [IsKey]
  have hlt := (Array.getElem?_eq_some_iff.1 h1).1
  have hbut : ∀ o, But b w { w with heap := w.heap.setIfInBounds b o } := fun o => ⟨rfl, rfl, rfl, by simp, fun j hj hne => (heap_set h1).2 j hne⟩
  rcases mm_find i es.toList m 0 hm.kv with ⟨a, c'⟩ | ⟨A, u, B, hmm, hA, c'⟩
  · refine ⟨{ w with heap := w.heap.setIfInBounds b (.map (es.push { key := .int .u64 i, val := .agg (imc v).toArray, born := clock }) (clock + 1)) }, ?_, ⟨_, _, (heap_set h1).1, ⟨?_, nodup_mput i v m hm.nd, ?_, ?_⟩⟩, hbut _, by simp⟩
    · simp only [Instr.mapUpdate, Sem.run_bind, run_underlying ht, Result.andThen_ok, MapKept.run_getObj_map h1, run_checkKey hk hkey, run_findKey hk a, MapKept.run_setObj_map _ h1]
    · rw [mput_no i v m c']
      simp [hm.kv, Go.Proofs.YteaejodihmnbcaaDoor.kv]
    · simp only [Array.toList_push, List.map_append, List.map_cons, List.map_nil]
      rw [List.nodup_append]
      refine ⟨hm.bn, by simp, fun x hx y hy => ?_⟩
      obtain ⟨z, hz, rfl⟩ := List.mem_map.1 hx
      have := hm.bc z hz
      simp only [List.mem_cons, List.not_mem_nil, or_false] at hy
      omega
    · intro x hx
      simp only [Array.toList_push, List.mem_append, List.mem_cons, List.not_mem_nil, or_false] at hx
      rcases hx with hx | rfl
      · have := hm.bc x hx
        omega
      · exact Nat.lt_succ_self _
  · have hl := congrArg List.length hm.kv
    have hlen : A.length < es.size := by
      simp only [List.length_map, Array.length_toList] at hl
      rw [hl, hmm]
      simp
    have hj : es[A.length]? = some es[A.length] := by simp [hlen]
    have hkv : es[A.length].key = .int .u64 i := by
      have := congrArg (fun l : List (Value × Value) => l[A.length]?) hm.kv
      simp only [List.getElem?_map, hmm] at this
      simp [hlen, Go.Proofs.YteaejodihmnbcaaDoor.kv] at this
      exact this.1
    have hst : (Instr.keyThatStays (.int .u64 i) (.int .u64 i)).run P w = .ok (.int .u64 i) w := by simp [Instr.keyThatStays, Instr.sameBits]
    have e1 : (es.modify A.length fun e => { e with key := .int .u64 i, val := .agg (imc v).toArray }).toList = es.toList.modify A.length (fun e => { e with key := .int .u64 i, val := .agg (imc v).toArray }) := by simp
    have e2 : (es.toList.modify A.length (fun e => { e with key := .int .u64 i, val := .agg (imc v).toArray })).map (·.born) = es.toList.map (·.born) := by
      apply List.ext_getElem?
      intro q
      simp only [List.getElem?_map, List.getElem?_modify]
      by_cases hqa : A.length = q
      · simp only [hqa, if_true]
        cases es.toList[q]? <;> rfl
      · simp only [hqa, if_false]
        cases es.toList[q]? <;> rfl
    refine ⟨{ w with heap := w.heap.setIfInBounds b (.map (es.modify A.length fun e => { e with key := .int .u64 i, val := .agg (imc v).toArray }) clock) }, ?_, ⟨_, _, (heap_set h1).1, ⟨?_, nodup_mput i v m hm.nd, by rw [e1, e2]; exact hm.bn, ?_⟩⟩, hbut _, by simp⟩
    · have c2 : Instr.findNow (.int .u64) (.int .u64 i) es.toList 0 = some (some (A.length, .agg (imc u).toArray)) := by rw [c', Nat.zero_add]
      simp only [Instr.mapUpdate, Sem.run_bind, run_underlying ht, Result.andThen_ok, MapKept.run_getObj_map h1, run_checkKey hk hkey, run_findKey hk c2, hj, Option.map_some, Option.getD_some, hkv, hst, MapKept.run_setObj_map _ h1]
    · rw [e1, hmm, mput_mid i u v B A hA]
      apply List.ext_getElem?
      intro q
      have hq := congrArg (fun l : List (Value × Value) => l[q]?) hm.kv
      simp only [List.getElem?_map, hmm] at hq
      simp only [List.getElem?_map, List.getElem?_modify]
      by_cases hqa : A.length = q
      · subst hqa
        simp [hlen, Go.Proofs.YteaejodihmnbcaaDoor.kv]
      · simp only [hqa, if_false]
        rw [show ((fun a : MapEntry => a) <$> es.toList[q]?) = es.toList[q]? from by cases es.toList[q]? <;> rfl, hq]
        congr 1
        rw [List.getElem?_append, List.getElem?_append]
        split
        · rfl
        · have : ∃ r, q - A.length = r + 1 := ⟨q - A.length - 1, by omega⟩
          obtain ⟨r, hr⟩ := this
          rw [hr]
          simp
    · intro x hx
      have h3 : x.born ∈ es.toList.map (·.born) := by rw [← e2, ← e1]; exact List.mem_map_of_mem hx
      obtain ⟨y, hy, e3⟩ := List.mem_map.1 h3
      rw [← e3]
      exact hm.bc y hy
end
/-- A range over a map: these have come. -/
def Rg (w : World) (b r : Nat) (m dn : List (Int × Im)) : Prop :=
  ∃ es clock since seen c0, ∃ de : List MapEntry, w.heap[b]? = some (.map es clock) ∧ Mm es clock m ∧ w.heap[r]? = some (.mapIter (some b) since seen c0) ∧ (∀ x ∈ es.toList, x.born < since) ∧ since ≤ c0 ∧ since ≤ clock ∧ (∀ x ∈ de, x ∈ es.toList) ∧ (∀ y, seen.contains y = true ↔ y ∈ de.map (·.born)) ∧ (de.map (·.born)).Nodup ∧ de.map (fun e => (e.key, e.val)) = dn.map kv
theorem Rg.mp {w : World} {b r : Nat} {m dn : List (Int × Im)} (h : Rg w b r m dn) : Mp w b m := by
  obtain ⟨es, clock, since, seen, c0, de, h1, h2, _⟩ := h
  exact ⟨es, clock, h1, h2⟩
theorem Rg.same {w w' : World} {b r : Nat} {m dn : List (Int × Im)} (h : Rg w b r m dn) (h1 : w'.heap[b]? = w.heap[b]?) (h2 : w'.heap[r]? = w.heap[r]?) : Rg w' b r m dn := by
  obtain ⟨es, clock, since, seen, c0, de, q1, q2, q3, q4⟩ := h
  exact ⟨es, clock, since, seen, c0, de, h1.trans q1, q2, h2.trans q3, q4⟩
theorem Rg.lt {w : World} {b r : Nat} {m dn : List (Int × Im)} (h : Rg w b r m dn) : b < w.heap.size ∧ r < w.heap.size ∧ b ≠ r := by
  obtain ⟨es, clock, since, seen, c0, de, q1, q2, q3, q4⟩ := h
  refine ⟨(Array.getElem?_eq_some_iff.1 q1).1, (Array.getElem?_eq_some_iff.1 q3).1, fun e => ?_⟩
  rw [← e, q1] at q3
  cases q3
theorem Mp.range {w : World} {b : Nat} {m : List (Int × Im)} (h : Mp w b m) {P : Program} {t k e : TypeId} (ht : P.underlying t = some (.map k e)) :
    ∃ w', (Instr.range t (.map (some b))).run P w = .ok (.pointer (some ⟨w.heap.size, 0, none⟩)) w' ∧ Rg w' b w.heap.size m [] ∧ Below w.heap.size w w' ∧ w'.heap.size = w.heap.size + 1 := by
  have hlt := h.lt
  obtain ⟨es, clock, hb, hm⟩ := h
  refine ⟨_, run_range_map w t k e b es clock ht hb, ⟨es, clock, clock, #[], clock, [], ((MapKept.heap_alloc w _).2 b hlt).trans hb, hm, (MapKept.heap_alloc w _).1, hm.bc, Nat.le_refl _, Nat.le_refl _, fun x hx => by simp at hx, fun y => by simp, by simp, rfl⟩, (Below.refl _ _).alloc (Nat.le_refl _) _, by simp⟩
theorem nodup_of_keys {α β : Type} (f : α → β) : ∀ {L : List α}, (L.map f).Nodup → L.Nodup
  | [], _ => List.nodup_nil
  | x :: L, h => by
    have h' := List.nodup_cons.1 h
    exact List.nodup_cons.2 ⟨fun hx => h'.1 (List.mem_map_of_mem hx), nodup_of_keys f h'.2⟩
theorem Rg.done {w : World} {b r : Nat} {m dn : List (Int × Im)} (h : Rg w b r m dn) {es : Array MapEntry} {clock since c0 : Nat} {seen : Array Nat} (hb : w.heap[b]? = some (.map es clock)) (hr : w.heap[r]? = some (.mapIter (some b) since seen c0)) (h0 : (leftOf es seen).size = 0) : (dn.map kv).Perm (m.map kv) := by
  obtain ⟨es', clock', since', seen', c0', de, q1, q2, q3, q4, q5, q6, q7, q8, q9, q10⟩ := h
  rw [hb] at q1
  rw [hr] at q3
  cases q1
  cases q3
  rw [← q10, ← q2.kv]
  apply List.Perm.map
  have hall := all_seen es seen h0
  have hbi : ∀ x ∈ es.toList, ∀ y ∈ es.toList, x.born = y.born → x = y := fun x hx y hy e => by
    have h1 := find_born x es.toList q2.bn hx
    have h2 := find_born y es.toList q2.bn hy
    rw [e, h2] at h1
    exact (Option.some.inj h1).symm
  have key : ∀ x, x ∈ de ↔ x ∈ es.toList := fun x => ⟨q7 x, fun hx => by
    have := (q8 x.born).1 (hall x hx)
    obtain ⟨y, hy, e⟩ := List.mem_map.1 this
    rw [← hbi y (q7 y hy) x hx e]
    exact hy⟩
  have n1 : de.Nodup := nodup_of_keys _ q9
  have n2 : es.toList.Nodup := nodup_of_keys _ q2.bn
  exact (List.perm_ext_iff_of_nodup n1 n2).2 key
theorem Rg.next {w : World} {b r : Nat} {m dn : List (Int × Im)} (h : Rg w b r m dn) {P : Program} (ty : TypeId) :
    ((dn.map kv).Perm (m.map kv) ∧ (Instr.next (.pointer (some ⟨r, 0, none⟩)) false ty).run P w = .ok (.tuple #[.bool false]) w) ∨
    ∃ p w', p ∈ m ∧ (Instr.next (.pointer (some ⟨r, 0, none⟩)) false ty).run P w = .ok (.tuple #[.bool true, .int .u64 p.1, .agg (imc p.2).toArray]) w' ∧ Rg w' b r m (dn ++ [p]) ∧ But r w w' ∧ w'.heap.size = w.heap.size ∧ (Instr.entry (.pointer (some ⟨r, 0, none⟩))).run P w' = .ok (.tuple #[.int .u64 p.1, .agg (imc p.2).toArray]) w' ∧ w'.rangeLeft b r < w.rangeLeft b r := by
  have h' := h
  have hne := h.lt.2.2
  obtain ⟨es, clock, since, seen, c0, de, q1, q2, q3, q4, q5, q6, q7, q8, q9, q10⟩ := h
  rcases run_next_at (P := P) w ty r b since c0 seen es clock q3 q1 q4 q5 with ⟨h0, hrun⟩ | ⟨e, he, w1, hal, hrun⟩
  · exact .inl ⟨h'.done q1 q3 h0, hrun⟩
  · obtain ⟨hem, hes⟩ := mem_left he
    have hr1 : w1.heap[r]? = some (.mapIter (some b) since seen c0) := by rcases hal with rfl | rfl <;> exact q3
    have hb1 : w1.heap[b]? = some (.map es clock) := by rcases hal with rfl | rfl <;> exact q1
    have hset := heap_set (o' := .mapIter (some b) since (seen.push e.born) clock) hr1
    have hb' : (setBlock w1 r (.mapIter (some b) since (seen.push e.born) clock)).heap[b]? = some (.map es clock) := (hset.2 b hne).trans hb1
    have hin : (e.key, e.val) ∈ m.map kv := by rw [← q2.kv]; exact List.mem_map.2 ⟨e, hem, rfl⟩
    obtain ⟨p, hp, hpe⟩ := List.mem_map.1 hin
    have e1 : e.key = .int .u64 p.1 := (congrArg Prod.fst hpe).symm
    have e2 : e.val = .agg (imc p.2).toArray := (congrArg Prod.snd hpe).symm
    have hen := run_entry_at (P := P) (setBlock w1 r (.mapIter (some b) since (seen.push e.born) clock)) r b since seen es clock e hset.1 hb' hem q2.bn
    rw [e1, e2] at hrun hen
    refine .inr ⟨p, _, hp, hrun, ⟨es, clock, since, seen.push e.born, clock, de ++ [e], hb', q2, hset.1, q4, q6, q6, fun x hx => ?_, fun y => ?_, ?_, ?_⟩, ?_, ?_, hen, ?_⟩
    · rcases List.mem_append.1 hx with hx | hx
      · exact q7 x hx
      · simp only [List.mem_cons, List.not_mem_nil, or_false] at hx
        rw [hx]; exact hem
    · rw [contains_push, List.map_append, List.mem_append, ← q8 y]
      simp
    · rw [List.map_append, List.nodup_append]
      refine ⟨q9, by simp, fun x hx y hy => ?_⟩
      simp only [List.map_cons, List.map_nil, List.mem_cons, List.not_mem_nil, or_false] at hy
      intro exy
      rw [exy, hy] at hx
      rw [(q8 _).2 hx] at hes
      cases hes
    · rw [List.map_append, List.map_append, q10]
      simp only [List.map_cons, List.map_nil, e1, e2, Go.Proofs.YteaejodihmnbcaaDoor.kv]
    · rcases hal with rfl | rfl <;> exact ⟨rfl, rfl, rfl, by simp [setBlock], fun i _ hi => hset.2 i hi⟩
    · rcases hal with rfl | rfl <;> simp [setBlock]
    · have := left_shrinks es seen e he
      have e3 : (setBlock w1 r (.mapIter (some b) since (seen.push e.born) clock)).rangeLeft b r = (leftOf es (seen.push e.born)).size := by
        have h4 := hset.1
        unfold World.rangeLeft
        rw [hb']
        rw [show (setBlock w1 r (.mapIter (some b) since (seen.push e.born) clock)).heap[r]? = _ from h4]
      have e4 : w.rangeLeft b r = (leftOf es seen).size := by
        unfold World.rangeLeft
        rw [q1, q3]
      rw [e3, e4]
      exact this
end Go.Proofs.YteaejodihmnbcaaDoor
