/-
 What changes of package replay answers. And what follows it.
-/
import Derived.Test.YtjdjbjedfbmgpaaGreatDoorQ33
import Derived.Test.YtjdjbjedfbmgpaaGreatDoorQ34
import Derived.Test.YtjdjbjedfbmgpaaGreatDoorQ21
import Derived.Test.YtjdjbjedfbmgpaaGreatDoorQ30
set_option linter.unusedVariables false
set_option maxRecDepth 100000
set_option maxRecDepth 100000
namespace Go.Proofs.YtjdjbjedfbmgpaaGreatDoor
open Go.RowKit Plain
attribute [local go_sem] Oper.semAt_some
def lastOk (L : List ((Int × List Int) × Bool)) : Prop := ∀ h : 0 < L.length, (L[L.length - 1]'(by omega)).2 = true
def Good (K : List Int) (L : List (Nat × List Int)) : Prop := (∀ x ∈ L, Opn K x) /\ lastOk (L.map (opR K))
structure ChQ (w wr : World) (S : Nat) (K : List Int) (X : List Sl) (k : Nat) (v : Value) (R : List Rc) : Prop where
 row : wr.ownsRow w.heap.size 95 3 v R.length (R.map rcc).flatten
 byt : ∀ r ∈ R, OIm wr w.heap.size r.m /\ r.m.bl = 160
 eq : R.map rpl = ((X.map spl).take k).map (opR K)
 opn : ∀ x ∈ (X.map spl).take k, Opn K x
 r0 : wr.heap[S]? = some (.cells (u8s K) 23 (0, 0))
 bel : Below w.heap.size w wr
theorem ChQ.len {w wr : World} {S : Nat} {K : List Int} {X : List Sl} {k : Nat} {v : Value} {R : List Rc} (h : ChQ w wr S K X k v R) (hk : k <= X.length) : R.length = k := by
 have := congrArg List.length h.eq
 simp at this
 omega
theorem ChQ.step {w wr x2 w' : World} {S k : Nat} {K : List Int} {X : List Sl} {v v' : Value} {R : List Rc} (h : ChQ w wr S K X k v R) (hk : k < X.length) (hb : Below wr.heap.size wr x2) (r : Rc) (hr : rpl r = opR K (spl X[k])) (hbl : r.m.bl = 160) (ho : OIm x2 wr.heap.size r.m) (hop : Opn K (spl X[k])) (hS : w.heap.size <= S)
  (hw : w'.ownsRow w.heap.size 95 3 v' (R.length + 1) ((R.map rcc).flatten ++ rcc r)) (hg : x2.grownBy w' v.ownBlock) : ChQ w w' S K X (k + 1) v' (R ++ [r]) := by
 have hrow := own_to h.row hb
 have hk2 : k < (X.map spl).length := by simpa using hk
 have hS1 : S < wr.heap.size := (Array.getElem?_eq_some_iff.1 h.r0).1
 have nS : ¬ some S = v.ownBlock := fun e => by
  obtain ⟨_, cur, h2⟩ := own_blk h.row S e.symm
  rw [h.r0] at h2
  simp only [Option.some.injEq, Obj.cells.injEq] at h2
  exact absurd h2.2.1 (by decide)
 refine ⟨?_, fun m hm => ?_, ?_, ?_, ?_, ?_⟩
 ·rw [List.map_append, List.flatten_append]
  simpa using hw
 ·rcases List.mem_append.1 hm with hm | hm
  ·exact ⟨(((h.byt m hm).1).to hb).grown hrow (by decide) hg, (h.byt m hm).2⟩
  ·simp only [List.mem_cons, List.not_mem_nil, or_false] at hm
   subst hm
   exact ⟨(ho.grown hrow (by decide) hg).low (h.bel.size), hbl⟩
 ·rw [List.map_append, h.eq, List.take_succ_eq_append_getElem hk2, List.map_append]
  simp [hr]
 ·intro x hx
  rw [List.take_succ_eq_append_getElem hk2] at hx
  rcases List.mem_append.1 hx with hx | hx
  ·exact h.opn x hx
  ·simp only [List.mem_cons, List.not_mem_nil, or_false] at hx
   rw [hx, List.getElem_map]
   exact hop
 ·exact (hg.block S (by have := hb.size; omega) nS).trans ((hb.block S hS1).trans h.r0)
 ·have hb2 := below_to h.bel hb
  exact hb2.grown hg hb2.size (fun j hj => (own_blk hrow j hj).1)
theorem ChQ.recs {w wr : World} {S n c : Nat} {K : List Int} {X : List Sl} {k : Nat} {a : Option Addr} {R : List Rc} (h : ChQ w wr S K X k (.slice a n c) R) (hn : R.length = n) : Recs wr a R := by
 have hr := h.row
 rw [hn] at hr
 exact ⟨own_tb (f := rcc) (fun _ => rfl) hr hn, fun r hm => ⟨((h.byt r hm).1).byi.1, ((h.byt r hm).1).num, by rw [(h.byt r hm).2]; omega⟩⟩
theorem lastOk_of {K : List Int} {L : List (Nat × List Int)} {R : List Rc} (e : R.map rpl = L.map (opR K)) : lastOk (L.map (opR K)) ↔ ∀ h0 : 0 < R.length, (R[R.length - 1]'(by omega)).l = true := by
 rw [<- e]
 unfold lastOk
 constructor
 ·intro h h0
  have := h (by simpa using h0)
  simpa [rpl] using this
 ·intro h h0
  have := h (by simpa using h0)
  simpa [rpl] using this
theorem last_cases (R : List Rc) : (∀ h0 : 0 < R.length, (R[R.length - 1]'(by omega)).l = true) ∨ ∃ h0 : 0 < R.length, (R[R.length - 1]'(by omega)).l = false := by
 by_cases h0 : 0 < R.length
 ·cases hq : (R[R.length - 1]'(by omega)).l
  ·exact .inr ⟨h0, hq⟩
  ·exact .inl fun _ => hq
 ·exact .inl fun h => absurd h h0
set_option maxHeartbeats 8000000 in
theorem changes_v {w : World} {B : Nat} {v : Value} {X : List Sl} (h : Slots w B v X) (hT : Seal.Tab w) (K : List Int) (hK : K.length = 32 /\ Byt K) (hl : X.length <= 1000) :
  Calls Tryz.prog 56 #[.agg (u8s K), v] w fun e w' => ((¬ Good K (X.map spl) /\ e = .returned (.tuple #[.slice none 0 0, .int .i64 14])) ∨ (Good K (X.map spl) /\ ∃ u C, e = .returned (.tuple #[u, .int .i64 0]) /\ Chs w' w.heap.size u C /\ C.map (fun c => c.M.map pl) = (chS ((X.map spl).map (opR K))).1)) /\ Below w.heap.size w w' := by
 obtain ⟨a, c, rfl⟩ := h.form
 obtain ⟨n, hn⟩ : ∃ n, X.length = n := ⟨_, rfl⟩
 rw [hn] at h hl ⊢
 obtain ⟨S, hS⟩ : ∃ S, w.heap.size = S := ⟨_, rfl⟩
 obtain ⟨AK, hAK⟩ : ∃ A, u8s K = A := ⟨_, rfl⟩
 rw [hAK]
 obtain ⟨w1, hw1⟩ : ∃ w1, w.alloc (.cells AK 23) = w1 := ⟨_, rfl⟩
 have hb1 : Below w.heap.size w w1 := by rw [<- hw1]; exact (Below.refl _ _).alloc (Nat.le_refl _) _
 have H0 : Box (ChQ w w1 S K X 0 (.slice none 0 0) []) := ⟨⟨World.ownsRow_nil _ _ _ _, fun m hm => by simp at hm, rfl, fun x hx => by simp at hx, by rw [<- hw1, hAK]; exact al_at hS, hb1⟩⟩
 have HSS : Box (w.heap.size = S) := ⟨hS⟩
 have HX : Box (∀ wr, Below w.heap.size w wr -> ∀ k (hk : k < X.length), ∃ b, a = some ⟨b, 0, none⟩ /\ wr.rangeAt b (0 + k * 2) (stc X[k]) /\ b < wr.heap.size) := ⟨fun wr hb k hk => (h.to hb).at hn k hk⟩
 have HOP : Box (∀ (wr y : World) (k : Nat) (hk : k < X.length), Below w.heap.size w wr -> Below wr.heap.size wr y -> Calls Tryz.prog 82 #[.agg AK, .agg (stc X[k]).toArray] y fun e w' => ((¬ Opn K (spl X[k]) /\ e = .returned (.tuple #[.agg (rcc zrc).toArray, .int .i64 11])) ∨ (Opn K (spl X[k]) /\ ∃ r, e = .returned (.tuple #[.agg (rcc r).toArray, .int .i64 0]) /\ rpl r = opR K (spl X[k]) /\ r.m.bl = 160 /\ OIm w' y.heap.size r.m)) /\ Below y.heap.size y w') := ⟨fun wr y k hk hb hy => by
  have := opened_v ((h.to (below_to hb hy)).byt X[k] (List.getElem_mem hk)) (hT.below (below_to hb hy)) K hK
  rw [hAK] at this
  exact this⟩
 have HN : Box (X.length = n /\ n <= 1000) := ⟨hn, hl⟩
 have HKU : Box ((Tryz.prog.info? 23).map (·.size) = some (K.map (Value.int .u8)).length /\ (K.map (Value.int .u8)).toArray = AK) := ⟨by rw [List.length_map, hK.1]; exact infoSum, by rw [<- hAK]; rfl⟩
 clear h hT hb1 hn hS hK hAK
 go_enter Tryz.func56, Tryz.ntmps56
 go_upto_region 2 with fail
 (try simp only [HSS.out])
 clear hw1
 go_wp2
 go_loopw [6, 15] (fun v i wr => ∃ (k : Nat) (R : List Rc), k <= n /\ i = .int .i64 (k : Int) /\ Box (ChQ w wr S K X k v R)) (fun _ i _ => n - (intOf i).toNat)
 case atStart => exact ⟨0, [], Nat.zero_le _, rfl, H0⟩
 case round =>
  clear H0
  obtain ⟨k, R, hk, rfl, HG⟩ := hrel
  by_cases hlt : k < n
  ·have hlt1 : decide ((k : Int) < (n : Int)) = true := by simp; omega
   have hkX : k < X.length := by rw [HN.out.1]; exact hlt
   obtain ⟨b, rfl, hr, hbl⟩ := HX.out wr HG.out.bel k hkX
   have HR : Box (wr.rangeAt b (0 + k * 2) (stc X[k])) := ⟨hr⟩
   have HK : Box (k < n) := ⟨hlt⟩
   obtain ⟨G, hG⟩ : ∃ G, wr.heap.size = G := ⟨_, rfl⟩
   have HCL : Box _ := ⟨fun y => HOP.out wr y k hkX HG.out.bel⟩
   have hSl : S < wr.heap.size := (Array.getElem?_eq_some_iff.1 HG.out.r0).1
   have HRK : Box (∀ y, Below wr.heap.size wr y -> y.rangeAt S 0 (K.map (Value.int .u8))) := ⟨fun y hy => range_u8 ((hy.block S hSl).trans HG.out.r0)⟩
   have HST : Box (∀ (x2 w' : World) (r : Rc) (v' : Value), Below wr.heap.size wr x2 -> rpl r = opR K (spl X[k]) -> r.m.bl = 160 -> OIm x2 wr.heap.size r.m -> Opn K (spl X[k]) -> w'.ownsRow w.heap.size 95 3 v' (R.length + 1) ((R.map rcc).flatten ++ rcc r) -> x2.grownBy w' u6.ownBlock -> ∃ R', ChQ w w' S K X (k + 1) v' R') := ⟨fun x2 w' r v' q1 q2 q3 q4 q5 q6 q7 => ⟨_, HG.out.step hkX q1 r q2 q3 q4 q5 (by have := HSS.out; omega) q6 q7⟩⟩
   have HBAD : Box (¬ Opn K (spl X[k]) -> ¬ Good K (X.map spl)) := ⟨fun h1 h2 => h1 (h2.1 _ (List.mem_map.2 ⟨_, List.getElem_mem hkX, rfl⟩))⟩
   have HBW : Box (∀ y, Below wr.heap.size wr y -> Below w.heap.size w y) := ⟨fun y hy => below_to HG.out.bel hy⟩
   have HOW : Box (∀ y, Below wr.heap.size wr y -> y.ownsRow w.heap.size 95 3 u6 R.length (R.map rcc).flatten /\ w.heap.size <= y.heap.size) := ⟨fun y hy => ⟨own_to HG.out.row hy, Nat.le_trans HG.out.bel.size hy.size⟩⟩
   have HRL : Box (R.length <= 1000000) := ⟨by have := HG.out.len (by rw [HN.out.1]; exact hk); have := HN.out.2; omega⟩
   obtain ⟨⟨p, g, bs⟩, hx⟩ : ∃ x, X[k] = x := ⟨_, rfl⟩
   have HHG : Box (wr.heap.size = G) := ⟨hG⟩
   rw [hx] at HR HCL HST HBAD
   simp only [stc] at HR HCL
   clear hx hr hG hSl
   go_upto_region 5 with (first
    | (refine atIdx 125 ?_; refine wpList_run rfl _ _ (exec_idxT 125 168 Tryz.underlying125 2 infoStl _ _ rfl b 0 n c k rfl rfl HK.out) ?_)
    | (refine atLoad 168 ?_; refine wpList_ldMid rfl 168 _ _ rfl Tryz.underlying168 rfl b (0 + k * 2) rfl [.int .u32 (p : Int), .slice (some ⟨g, 0, none⟩) 192 192] infoStl HR.out ?_)
    | (refine atAlloc _ ?_; refine wpList_run rfl _ _ (exec_alloc 168 rfl _ zeroStl) ?_)
    | (refine atStore _ ?_; refine wpList_newRow wr #[.int .u32 0, .slice none 0 0] #[.int .u32 (p : Int), .slice (some ⟨g, 0, none⟩) 192 192] infoStl rfl (by simp [Value.oneCell']) rfl _ _ rfl rfl rfl rfl ?_; intro x1 h1 hb1; have H1 : Box (x1.heap[wr.heap.size]? = some (.cells #[.int .u32 (p : Int), .slice (some ⟨g, 0, none⟩) 192 192] 168 (0, 0)) /\ Below wr.heap.size wr x1) := ⟨h1, hb1⟩; clear h1 hb1))
   (try simp only [HHG.out])
   have HRS : Box (x1.rangeAt G 0 [.int .u32 (p : Int), .slice (some ⟨g, 0, none⟩) 192 192] /\ x1.rangeAt S 0 (K.map (Value.int .u8))) := ⟨by
    have := H1.out.1
    rw [HHG.out] at this
    exact range_arr this _ (fun j v hv => by simpa using hv), HRK.out x1 H1.out.2⟩
   have HC1 : Box _ := ⟨HCL.out x1 H1.out.2⟩
   clear HR HCL HX HOP
   by_cases hop : Opn K (spl ⟨p, g, bs⟩)
   ·have HC2 : Box (Calls Tryz.prog 82 #[.agg AK, .agg #[.int .u32 (p : Int), .slice (some ⟨g, 0, none⟩) 192 192]] x1 fun e w' => ∃ r, e = .returned (.tuple #[.agg (rcc r).toArray, .int .i64 0]) /\ rpl r = opR K (spl ⟨p, g, bs⟩) /\ r.m.bl = 160 /\ OIm w' x1.heap.size r.m /\ Below x1.heap.size x1 w') := ⟨HC1.out.mono fun e w' ⟨h1, h2⟩ => by
     rcases h1 with ⟨h3, _⟩ | ⟨_, r, q1, q2, q3, q4⟩
     ·exact absurd hop h3
     ·exact ⟨r, q1, q2, q3, q4, h2⟩⟩
    have HOK : Box (Opn K (spl ⟨p, g, bs⟩)) := ⟨hop⟩
    clear HC1 hop
    go_upto_region 8 with (first
     | (refine atLoad 23 ?_; refine wpList_ldMid rfl 23 _ _ rfl Tryz.underlying23 rfl S 0 rfl (K.map (Value.int .u8)) HKU.out.1 HRS.out.2 ?_; rw [HKU.out.2])
     | (refine atLoad 168 ?_; refine wpList_ldMid rfl 168 _ _ rfl Tryz.underlying168 rfl G 0 rfl [.int .u32 (p : Int), .slice (some ⟨g, 0, none⟩) 192 192] infoStl HRS.out.1 ?_)
     | (go_at_call 82; refine HC2.out.mono ?_; rintro e x2 ⟨⟨⟨mb, ma, ml, mc, ms⟩, bo⟩, rfl, q1, q2, q3, q4⟩; have H2 : Box (rpl ⟨⟨mb, ma, ml, mc, ms⟩, bo⟩ = opR K (spl ⟨p, g, bs⟩) /\ ml = 160 /\ OIm x2 x1.heap.size ⟨mb, ma, ml, mc, ms⟩ /\ Below x1.heap.size x1 x2) := ⟨q1, q2, q3, q4⟩; simp only [rcc]; clear q1 q2 q3 q4)
     | (refine atAlloc _ ?_; refine wpList_run rfl _ _ (exec_alloc 95 rfl _ zeroRc) ?_)
     | (refine atStore _ ?_; refine wpList_newRow x2 (rcc zrc).toArray #[.int .u64 mb, .slice ma ml mc, .bool bo] infoRc rfl (by simp [Value.oneCell']) rfl _ _ rfl rfl rfl rfl ?_; intro x3 h3 hb3; have H3 : Box (x3.heap[x2.heap.size]? = some (.cells #[.int .u64 mb, .slice ma ml mc, .bool bo] 95 (0, 0)) /\ Below x2.heap.size x2 x3) := ⟨h3, hb3⟩; clear h3 hb3))
    obtain ⟨G2, hG2⟩ : ∃ G, x2.heap.size = G := ⟨_, rfl⟩
    (try simp only [hG2])
    have HR3 : Box (x3.rangeAt G2 0 [.int .u64 mb, .slice ma ml mc, .bool bo] /\ Below wr.heap.size wr x3 /\ OIm x3 wr.heap.size ⟨mb, ma, ml, mc, ms⟩) := ⟨by
     have := H3.out.1
     rw [hG2] at this
     exact range_arr this _ (fun j v hv => by simpa using hv), below_to H1.out.2 (below_to H2.out.2.2.2 H3.out.2), (H2.out.2.2.1.to H3.out.2).low H1.out.2.size⟩
    have HO3 : Box _ := ⟨HOW.out x3 HR3.out.2.1⟩
    clear hG2
    go_wp2_with (first
     | (refine atLoad 95 ?_; refine wpList_ldMid rfl 95 _ _ rfl Tryz.underlying95 rfl G2 0 rfl [.int .u64 mb, .slice ma ml mc, .bool bo] infoRc HR3.out.1 ?_)
     | (at_builtin; refine wpList_appR 90 95 Tryz.underlying90 3 40 _ infRc rfl (by decide) rfl (.tmp 27) (.tmp 29) rfl w.heap.size R.length u6 (R.map rcc).flatten [.int .u64 mb, .slice ma ml mc, .bool bo] x3 rfl rfl rfl HO3.out.1 rfl (by simp [Value.oneCell']) HRL.out (by decide) (by decide) HO3.out.2 ?_; intro v4 x4 a1 a2; have H4 : Box (∃ R', ChQ w x4 S K X (k + 1) v4 R') := ⟨HST.out x3 x4 ⟨⟨mb, ma, ml, mc, ms⟩, bo⟩ v4 HR3.out.2.1 H2.out.1 H2.out.2.1 HR3.out.2.2 HOK.out a1 a2⟩; clear a1 a2))
    go_roundw
    case rel =>
     obtain ⟨R', h⟩ := H4.out
     exact ⟨k + 1, R', by omega, by go_num, ⟨h⟩⟩
    case measure => simp [intOf]; omega
   ·have HC2 : Box (Calls Tryz.prog 82 #[.agg AK, .agg #[.int .u32 (p : Int), .slice (some ⟨g, 0, none⟩) 192 192]] x1 fun e w' => e = .returned (.tuple #[.agg (rcc zrc).toArray, .int .i64 11]) /\ Below x1.heap.size x1 w') := ⟨HC1.out.mono fun e w' ⟨h1, h2⟩ => by
     rcases h1 with ⟨_, h3⟩ | ⟨h3, _⟩
     ·exact ⟨h3, h2⟩
     ·exact absurd h3 hop⟩
    have HNG : Box (¬ Good K (X.map spl)) := ⟨HBAD.out hop⟩
    clear HC1 hop
    go_wp2_with (first
     | (refine atLoad 23 ?_; refine wpList_ldMid rfl 23 _ _ rfl Tryz.underlying23 rfl S 0 rfl (K.map (Value.int .u8)) HKU.out.1 HRS.out.2 ?_; rw [HKU.out.2])
     | (refine atLoad 168 ?_; refine wpList_ldMid rfl 168 _ _ rfl Tryz.underlying168 rfl G 0 rfl [.int .u32 (p : Int), .slice (some ⟨g, 0, none⟩) 192 192] infoStl HRS.out.1 ?_)
     | (go_at_call 82; refine HC2.out.mono ?_; rintro e x2 ⟨rfl, q4⟩; have H2 : Box (Below x1.heap.size x1 x2) := ⟨q4⟩; clear q4)
     | (refine atAlloc _ ?_; refine wpList_run rfl _ _ (exec_alloc 95 rfl _ zeroRc) ?_)
     | (refine atStore _ ?_; refine wpList_newRow x2 (rcc zrc).toArray (rcc zrc).toArray infoRc rfl all_rc0 rfl _ _ rfl rfl rfl rfl ?_; intro x3 h3 hb3; have H3 : Box (Below x2.heap.size x2 x3) := ⟨hb3⟩; clear h3 hb3))
    go_ret2
    exact ⟨.inl ⟨HNG.out, rfl⟩, HBW.out x3 (below_to H1.out.2 (below_to H2.out H3.out))⟩
  ·have hlt1 : decide ((k : Int) < (n : Int)) = false := by simp; omega
   obtain rfl : k = n := by omega
   have hRl := HG.out.len (by rw [HN.out.1]; exact Nat.le_refl _)
   have htk : (X.map spl).take k = X.map spl := List.take_of_length_le (by rw [List.length_map, HN.out.1]; exact Nat.le_refl _)
   have HEQ : Box (R.map rpl = (X.map spl).map (opR K) /\ ∀ x ∈ X.map spl, Opn K x) := ⟨by have := HG.out.eq; rwa [htk] at this, fun x hx => HG.out.opn x (by rw [htk]; exact hx)⟩
   obtain ⟨a6, c6, rfl⟩ := own_form2 HG.out.row
   have hrec := HG.out.recs rfl
   have hk10 := HN.out.2
   have HBW : Box (Below w.heap.size w wr) := ⟨HG.out.bel⟩
   rcases last_cases R with hla | ⟨h0, hlf⟩
   ·have HCH : Box (Calls Tryz.prog 83 #[.slice a6 R.length c6] wr fun e w' => ∃ v C, e = .returned (.tuple #[v, .int .i64 0]) /\ Chs w' wr.heap.size v C /\ C.map (fun c => c.M.map pl) = (chS (R.map rpl)).1 /\ Below wr.heap.size wr w') := ⟨changes_ok a6 c6 R wr hrec (by omega) hla⟩
    have HGD : Box (Good K (X.map spl)) := ⟨HEQ.out.2, (lastOk_of HEQ.out.1).2 hla⟩
    clear hla hrec htk HG hRl
    go_wp2_with (go_at_call 83; refine HCH.out.mono ?_; rintro e x2 ⟨u, C, rfl, q1, q2, q3⟩; have H2 : Box (Chs x2 wr.heap.size u C /\ C.map (fun c => c.M.map pl) = (chS (R.map rpl)).1 /\ Below wr.heap.size wr x2) := ⟨q1, q2, q3⟩; clear q1 q2 q3)
    go_ret2
    refine ⟨.inr ⟨HGD.out, u, C, rfl, ?_, by rw [<- HEQ.out.1]; exact H2.out.2.1⟩, below_to HBW.out H2.out.2.2⟩
    have hc := H2.out.1
    have hz := HBW.out.size
    refine ⟨own_low2 hc.row hz, fun c hcm => ?_⟩
    obtain ⟨q1, ⟨g, p, q2, q3, q4, q5⟩, q6⟩ := hc.im c hcm
    exact ⟨q1, ⟨g, p, by omega, q3, q4, q5⟩, fun m hm => (q6 m hm).low hz⟩
   ·have HCH : Box (Calls Tryz.prog 83 #[.slice a6 R.length c6] wr fun e w' => e = .returned (.tuple #[.slice none 0 0, .int .i64 11]) /\ wr = w') := ⟨changes_bad a6 c6 R wr hrec (by omega) h0 hlf⟩
    have HGD : Box (¬ Good K (X.map spl)) := ⟨fun h => by have := (lastOk_of HEQ.out.1).1 h.2 h0; rw [hlf] at this; cases this⟩
    clear hlf hrec htk HG hRl h0
    go_wp2_with (go_at_call 83; refine HCH.out.mono ?_; rintro e x2 ⟨rfl, rfl⟩)
    go_ret2
    exact ⟨.inl ⟨HGD.out, rfl⟩, HBW.out⟩
end Go.Proofs.YtjdjbjedfbmgpaaGreatDoor
namespace Go.Proofs.YtjdjbjedfbmgpaaGreatDoor
open Go.RowKit Plain
attribute [local go_sem] Oper.semAt_some
def lds (d : Disk.Dk) (f n : Nat) (s : Jst) : List (Nat × List Int) := (pcs f n s.start s.count).map fun p => (p, Disk.lat d p)
def LGood (d : Disk.Dk) (K : List Int) (f n : Nat) (s : Jst) : Prop := chn (lds d f n s) = s.tag /\ Good K (lds d f n s)
def ldC (d : Disk.Dk) (K : List Int) (f n : Nat) (s : Jst) : List (List (Int × List Int)) := (chS ((lds d f n s).map (opR K))).1
theorem slice_sum (g o : Nat) (x : World) : (Instr.sliceAt 23 (.pointer (some ⟨g, o, none⟩)) none none none).run Tryz.prog x = .ok (.slice (some ⟨g, o, none⟩) 32 32) x := by kernel_rfl
theorem bytes_mid {w : World} {g o : Nat} {cs : Array Value} {t : TypeId} {fr : Nat × Nat} (h : w.heap[g]? = some (.cells cs t fr)) (L : List Int) (hL : L.length = 32) (hb : Byt L) (hc : ∀ i, i < 32 -> cs[o + i]? = some (.int .u8 (L.getD i 0))) : Bytes w (some ⟨g, o, none⟩) 32 L :=
 ⟨hL, hb, fun _ => ⟨g, o, rfl, (Array.getElem?_eq_some_iff.1 h).1, fun i hi => by rw [cell_of_row _ _ _ _ _ _ h]; exact hc i hi⟩⟩
theorem Chs.same {w w' : World} {B : Nat} {v : Value} {C : List Sx} (h : Chs w B v C) (hs : ∀ k, B <= k -> k < w.heap.size -> w'.heap[k]? = w.heap[k]?) (hz : w.heap.size <= w'.heap.size) : Chs w' B v C := by
 refine ⟨own_same h.row (fun k hk => hs k (own_blk h.row k hk).1 (h.row.lt k hk).2), fun c hc => ?_⟩
 obtain ⟨r1, ⟨g, p, r2, r3, r4, r5⟩, r6⟩ := h.im c hc
 refine ⟨r1, ⟨g, p, r2, Nat.lt_of_lt_of_le r3 hz, r4, fun i hi j v hv => (World.cell?_of_block (hs g r2 r3)).trans (r5 i hi j v hv)⟩, fun m hm => ?_⟩
 have o := r6 m hm
 exact ⟨own_same o.own (fun k hk => hs k (own_blk o.own k hk).1 (o.own.lt k hk).2), o.byt, o.num⟩
theorem Chs.igss {w : World} {B c : Nat} {a : Option Addr} {C : List Sx} (h : Chs w B (.slice a C.length c) C) (hl : ∀ x ∈ C, x.l <= maxLen) : Igss w a C := by
 refine ⟨own_tb (fun _ => rfl) h.row rfl, fun x hx => ?_⟩
 obtain ⟨r1, ⟨g, p, r2, r3, r4, r5⟩, r6⟩ := h.im x hx
 exact ⟨r1, ⟨fun _ => ⟨g, p, r4, r3, r5⟩, fun m hm => (r6 m hm).byi⟩, hl x hx⟩
set_option maxHeartbeats 8000000 in
theorem load_v {w0 w : World} {D : Nat} {fp : Nat -> Prop} {d : Disk.Dk} (C : Disk.Cx w0 w D fp d) (K : List Int) (hK : K.length = 32 /\ Byt K) (f n : Nat) (s : Jst) (hs : OkS s) (h1 : 1 <= n) (hn1 : n <= 1000) (hfit : f + n <= d.n) (hdn : d.n <= 4096) (hm : may n s = true) (hd : d.down = false) (ho : d.ops.length < 900000) (hu : d.uw.length < 900000) (hT : Dig.Tabs w0) (hT2 : Seal.Tab w0) :
  Calls Tryz.prog 24 #[.pointer (some ⟨D, 0, none⟩), .agg (u8s K), .int .i64 (f : Int), .int .i64 (n : Int), .agg (sa s)] w fun e w' => ∃ fp', Disk.Cx w0 w' D fp' (rdD d (pcs f n s.start s.count)) /\ Disk.Fol w fp w' fp' /\ ((¬ LGood d K f n s /\ e = .returned (.tuple #[.slice none 0 0, .int .i64 14])) ∨ (LGood d K f n s /\ ∃ u X B, e = .returned (.tuple #[u, .int .i64 0]) /\ Chs w' B u X /\ w.heap.size <= B /\ (∀ k, fp' k -> k < B) /\ X.map (fun c => c.M.map pl) = ldC d K f n s)) := by
 have hmm := may_ok hm
 obtain ⟨S, hS⟩ : ∃ S, w.heap.size = S := ⟨_, rfl⟩
 obtain ⟨AK, hAK⟩ : ∃ A, u8s K = A := ⟨_, rfl⟩
 obtain ⟨SA, hSA⟩ : ∃ A, sa s = A := ⟨_, rfl⟩
 obtain ⟨w1, hw1⟩ : ∃ w1, (w.alloc (.cells AK 23)).alloc (.cells SA 27) = w1 := ⟨_, rfl⟩
 have hb1 : Below w.heap.size w w1 := by rw [<- hw1]; exact ((Below.refl _ _).alloc (Nat.le_refl _) _).alloc (by simp) _
 have k1 : w1.heap[S]? = some (.cells AK 23 (0, 0)) := by rw [<- hw1]; exact al_old (al_at hS)
 have k2 : w1.heap[S + 1]? = some (.cells SA 27 (0, 0)) := by rw [<- hw1]; exact al_at (by simp [hS])
 have hs1 : w1.heap.size = S + 2 := by rw [<- hw1]; simp [hS]
 have C1 := C.step hb1
 have nS : ∀ i, S <= i -> ¬ fp i := fun i hi h => by have := C.hi i h; omega
 have HJN : Box (Calls Tryz.prog 8 #[.pointer (some ⟨D, 0, none⟩), .agg AK, .int .i64 (f : Int), .int .i64 (n : Int), .agg SA, .int .u64 1, .int .u64 1] w1 fun e w' => ∃ J, e = .returned (.tuple #[.pointer (some ⟨J, 0, none⟩), .int .i64 0]) /\ Below w1.heap.size w1 w') := ⟨by
  have := jnew_ok C1 K hK f n h1 hfit hdn s hs hm 1 1 ⟨by omega, by omega⟩ ⟨by omega, by omega⟩ hT hT2
  rw [hAK, hSA] at this
  refine this.mono ?_
  rintro e w' ⟨J, q1, _, q3, _⟩
  exact ⟨J, q1, q3⟩⟩
 have HRD : Box (∀ y, Below w1.heap.size w1 y -> Calls Tryz.prog 53 #[.pointer (some ⟨D, 0, none⟩), .int .u64 (f : Int), .int .u64 (n : Int), .agg SA] y fun e w' => ∃ v X fp', e = .returned (.tuple #[v, .int .i64 0]) /\ Slots w' y.heap.size v X /\ X.map spl = lds d f n s /\ Disk.Cx w0 w' D fp' (rdD d (pcs f n s.start s.count)) /\ Disk.Fol y fp w' fp') := ⟨fun y hy => by
  have := read_v (C1.step hy) f n s h1 hfit hdn hm hd ho hu
  rw [hSA] at this
  exact this⟩
 have HKP : Box (∀ y z fp', Below w1.heap.size w1 y -> Disk.Fol y fp z fp' -> z.heap[S]? = some (.cells AK 23 (0, 0)) /\ z.heap[S + 1]? = some (.cells SA 27 (0, 0))) := ⟨fun y z fp' hy hz => by
  have hz1 := hy.size
  exact ⟨(hz.t.block S (by omega) (nS S (Nat.le_refl _))).trans ((hy.block S (by omega)).trans k1), (hz.t.block (S + 1) (by omega) (nS _ (by omega))).trans ((hy.block (S + 1) (by omega)).trans k2)⟩⟩
 have HR1 : Box ((∀ y : World, y.heap[S]? = some (.cells AK 23 (0, 0)) -> y.rangeAt S 0 (K.map (Value.int .u8))) /\ (Tryz.prog.info? 23).map (·.size) = some (K.map (Value.int .u8)).length /\ (K.map (Value.int .u8)).toArray = AK /\ (∀ y : World, y.heap[S + 1]? = some (.cells SA 27 (0, 0)) -> y.rangeAt (S + 1) 0 (scs s) /\ Bytes y (some ⟨S + 1, 2, none⟩) 32 s.tag) /\ (Tryz.prog.info? 27).map (·.size) = some (scs s).length /\ (scs s).toArray = SA) := ⟨fun y hy => by rw [<- hAK] at hy; exact range_u8 hy, by rw [List.length_map, hK.1]; exact infoSum, by rw [<- hAK]; rfl, fun y hy => by
  rw [<- hSA] at hy
  refine ⟨range_sa hy, bytes_mid hy s.tag hs.lt hs.bt (fun i hi => ?_)⟩
  have hi2 : i < s.tag.length := by rw [hs.lt]; exact hi
  rw [show 2 + i = i + 1 + 1 by omega]
  simp [sa, scs, List.getD, hi2], by rw [len_scs hs]; exact infoSt, by rw [<- hSA]; rfl⟩
 have HCH : Box (∀ y B v X, Below w0.heap.size w0 y -> Slots y B v X -> X.map spl = lds d f n s -> Calls Tryz.prog 54 #[v] y fun e w' => e = .returned (.agg (u8s (chn (lds d f n s)))) /\ Below y.heap.size y w') := ⟨fun y B v X hy hX he => by
  have := chain_v hX (hT.below hy) (by have := congrArg List.length he; simp [lds, pcs] at this; omega)
  rw [he] at this
  exact this⟩
 have HCG : Box (∀ y B v X, Below w0.heap.size w0 y -> Slots y B v X -> X.map spl = lds d f n s -> Calls Tryz.prog 56 #[.agg AK, v] y fun e w' => ((¬ Good K (lds d f n s) /\ e = .returned (.tuple #[.slice none 0 0, .int .i64 14])) ∨ (Good K (lds d f n s) /\ ∃ u C, e = .returned (.tuple #[u, .int .i64 0]) /\ Chs w' y.heap.size u C /\ C.map (fun c => c.M.map pl) = ldC d K f n s)) /\ Below y.heap.size y w') := ⟨fun y B v X hy hX he => by
  have := changes_v hX (hT2.below hy) K hK (by have := congrArg List.length he; simp [lds, pcs] at this; omega)
  rw [he, hAK] at this
  exact this⟩
 have HFO : Box (∀ y z z2 fp', Below w1.heap.size w1 y -> Disk.Fol y fp z fp' -> Disk.Cx w0 z D fp' (rdD d (pcs f n s.start s.count)) -> Below z.heap.size z z2 -> Disk.Cx w0 z2 D fp' (rdD d (pcs f n s.start s.count)) /\ Disk.Fol w fp z2 fp' /\ w.heap.size <= z.heap.size) := ⟨fun y z z2 fp' hy hz hc hz2 => by
  have hb := below_to hb1 hy
  refine ⟨hc.step hz2, fol_trans ⟨Disk.Turned.of_below hb, fun _ _ h => h⟩ (fol_trans hz ⟨Disk.Turned.of_below hz2, fun _ _ h => h⟩), ?_⟩
  have := hb.size
  have := hz.t.size
  omega⟩
 have HSS : Box (w.heap.size = S) := ⟨hS⟩
 have hs2 : (w.alloc (.cells AK 23)).heap.size = S + 1 := by simp [hS]
 have hwf : IntKind.u64.wrap (f : Int) = (f : Int) := by rw [IntKind.wrap_u64]; omega
 have hwn : IntKind.u64.wrap (n : Int) = (n : Int) := by rw [IntKind.wrap_u64]; omega
 have hw1r : Box (w1.heap[S]? = some (.cells AK 23 (0, 0)) /\ w1.heap[S + 1]? = some (.cells SA 27 (0, 0)) /\ w1.heap.size = S + 2) := ⟨k1, k2, hs1⟩
 obtain ⟨LL, hLL⟩ : ∃ L, lds d f n s = L := ⟨_, rfl⟩
 obtain ⟨Tg, hTg⟩ : ∃ T, chn LL = T := ⟨_, rfl⟩
 have HTG : Box (chn (lds d f n s) = Tg /\ Tg.length = 32 /\ Byt Tg /\ s.tag.length = 32) := ⟨by rw [hLL]; exact hTg, by rw [<- hTg]; exact (chn_len _).1, by rw [<- hTg]; exact (chn_len _).2, hs.lt⟩
 rw [hAK, hSA]
 rw [HTG.out.1] at HCH
 have HTS : Box ((Tryz.prog.info? 23).map (·.size) = some (u8s Tg).size /\ (u8s z32).size = (u8s Tg).size) := ⟨by rw [size_u8s, HTG.out.2.1]; exact infoSum, by rw [size_u8s, size_u8s, HTG.out.2.1, len_z32]⟩
 clear C hK hs h1 hn1 hfit hdn hm hd ho hu hT hT2 hmm hb1 k1 k2 hs1 C1 nS hS hAK hSA hLL hTg
 go_enter Tryz.func24, Tryz.ntmps24
 go_upto_region 1 with fail
 (try rw [hs2])
 (try simp only [HSS.out])
 clear hw1 hs2
 have HRa : Box (w1.rangeAt S 0 (K.map (Value.int .u8)) /\ w1.rangeAt (S + 1) 0 (scs s)) := ⟨HR1.out.1 w1 hw1r.out.1, (HR1.out.2.2.2.1 w1 hw1r.out.2.1).1⟩
 go_upto_region 4 with (first
  | (refine atLoad 23 ?_; refine wpList_ldMid rfl 23 _ _ rfl Tryz.underlying23 rfl S 0 rfl (K.map (Value.int .u8)) HR1.out.2.1 HRa.out.1 ?_; rw [HR1.out.2.2.1])
  | (refine atLoad 27 ?_; refine wpList_ldMid rfl 27 _ _ rfl Tryz.underlying27 rfl (S + 1) 0 rfl (scs s) HR1.out.2.2.2.2.1 HRa.out.2 ?_; rw [HR1.out.2.2.2.2.2])
  | (go_at_call 8; refine HJN.out.mono ?_; rintro e x1 ⟨J, rfl, hb⟩; have H1 : Box (Below w1.heap.size w1 x1) := ⟨hb⟩; clear hb))
 have HRb : Box (x1.rangeAt (S + 1) 0 (scs s)) := ⟨(HR1.out.2.2.2.1 x1 ((H1.out.block (S + 1) (by have := hw1r.out.2.2; omega)).trans hw1r.out.2.1)).1⟩
 have HRDx : Box _ := ⟨HRD.out x1 H1.out⟩
 clear HRa HRD HJN
 go_upto_region 7 with (first
  | (refine atLoad 27 ?_; refine wpList_ldMid rfl 27 _ _ rfl Tryz.underlying27 rfl (S + 1) 0 rfl (scs s) HR1.out.2.2.2.2.1 HRb.out ?_; rw [HR1.out.2.2.2.2.2])
  | (go_at_call 53; refine HRDx.out.mono ?_; rintro e x2 ⟨v, X, fp2, rfl, q1, q2, q3, q4⟩; have H2 : Box (Slots x2 x1.heap.size v X /\ X.map spl = lds d f n s /\ Disk.Cx w0 x2 D fp2 (rdD d (pcs f n s.start s.count)) /\ Disk.Fol x1 fp x2 fp2) := ⟨q1, q2, q3, q4⟩; clear q1 q2 q3 q4))
 have HCx : Box _ := ⟨HCH.out x2 _ v X H2.out.2.2.1.bel H2.out.1 H2.out.2.1⟩
 have HK2 : Box _ := ⟨HKP.out x1 x2 fp2 H1.out H2.out.2.2.2⟩
 clear HCH HKP HRb HRDx
 go_upto_region 8 with (first
  | (go_at_call 54; refine HCx.out.mono ?_; rintro e x3 ⟨rfl, hb⟩; have H3 : Box (Below x2.heap.size x2 x3) := ⟨hb⟩; clear hb)
  | (refine atAlloc _ ?_; refine wpList_run rfl _ _ (exec_alloc 23 rfl _ zeroSum) ?_)
  | (refine atStore _ ?_; refine wpList_newRow x3 (u8s z32) (u8s Tg) HTS.out.1 HTS.out.2 (all_u8s Tg) rfl _ _ rfl rfl rfl rfl ?_; intro x4 h4 hb4; have H4 : Box (x4.heap[x3.heap.size]? = some (.cells (u8s Tg) 23 (0, 0)) /\ Below x3.heap.size x3 x4) := ⟨h4, hb4⟩; clear h4 hb4))
 obtain ⟨T, hTt⟩ : ∃ T, x3.heap.size = T := ⟨_, rfl⟩
 (try simp only [hTt])
 have HB4 : Box (Below x2.heap.size x2 x4 /\ x4.heap[S]? = some (.cells AK 23 (0, 0)) /\ x4.heap[S + 1]? = some (.cells SA 27 (0, 0)) /\ x4.heap[T]? = some (.cells (u8s Tg) 23 (0, 0))) := ⟨by
  have hb := below_to H3.out H4.out.2
  have l1 := (Array.getElem?_eq_some_iff.1 HK2.out.1).1
  have l2 := (Array.getElem?_eq_some_iff.1 HK2.out.2).1
  rw [<- hTt]
  exact ⟨hb, (hb.block S l1).trans HK2.out.1, (hb.block (S + 1) l2).trans HK2.out.2, H4.out.1⟩⟩
 have HEQ : Box (∀ m, Calls Tryz.prog 55 #[.slice (some ⟨T, 0, none⟩) 32 32, .slice (some ⟨S + 1, 2, none⟩) 32 32] (x4.drewN m) fun e w' => e = .returned (.bool (decide (Tg = s.tag))) /\ w' = x4.drewN m) := ⟨fun m => by
  have b1 : Bytes (x4.drewN m) (some ⟨T, 0, none⟩) 32 Tg := bytes_mid (w := x4.drewN m) HB4.out.2.2.2 Tg HTG.out.2.1 HTG.out.2.2.1 (fun i hi => by
   have hi2 : i < Tg.length := by rw [HTG.out.2.1]; exact hi
   simp [u8s, List.getD, hi2])
  have b2 : Bytes (x4.drewN m) (some ⟨S + 1, 2, none⟩) 32 s.tag := (HR1.out.2.2.2.1 (x4.drewN m) HB4.out.2.2.1).2
  exact (bytes_any _ _ 32 32 32 32 Tg s.tag _ b1 b2 (by omega) (by omega)).mono fun _ _ ⟨h1, h2⟩ => ⟨h1, h2.symm⟩⟩
 have hsl := slice_sum T 0
 have hsl2 := slice_sum (S + 1) 2
 clear hTt HCx
 by_cases htg : Tg = s.tag
 ·have hdt : decide (Tg = s.tag) = true := by simpa using htg
  rw [hdt] at HEQ
  have HTE : Box (chn (lds d f n s) = s.tag) := ⟨HTG.out.1.trans htg⟩
  clear htg hdt
  go_quiet (first | (go_at_call 55; exact Calls.quiet_of_same (HEQ.out _)))
  obtain ⟨x5, hx5⟩ : ∃ x5, x4.drewN nq = x5 := ⟨_, rfl⟩
  have H5 : Box (Below x4.heap.size x4 x5 /\ x5.heap[S]? = some (.cells AK 23 (0, 0))) := ⟨by rw [<- hx5]; exact below_drewN (Below.refl _ _) nq, by rw [<- hx5]; exact HB4.out.2.1⟩
  rw [hx5]
  clear hx5 HEQ
  have HR5 : Box (x5.rangeAt S 0 (K.map (Value.int .u8))) := ⟨HR1.out.1 x5 H5.out.2⟩
  have hb25 := below_to HB4.out.1 H5.out.1
  have HCG5 : Box _ := ⟨HCG.out x5 _ v X (below_to H2.out.2.2.1.bel hb25) (H2.out.1.to hb25) H2.out.2.1⟩
  have H25 : Box (Below x2.heap.size x2 x5) := ⟨hb25⟩
  clear hb25
  by_cases hgd : Good K (lds d f n s)
  ·have HC7 : Box (Calls Tryz.prog 56 #[.agg AK, v] x5 fun e w' => ∃ u C, e = .returned (.tuple #[u, .int .i64 0]) /\ Chs w' x5.heap.size u C /\ C.map (fun c => c.M.map pl) = ldC d K f n s /\ Below x5.heap.size x5 w') := ⟨HCG5.out.mono fun e w' ⟨h1, h2⟩ => by
    rcases h1 with ⟨h3, _⟩ | ⟨_, u, C, q1, q2, q3⟩
    ·exact absurd hgd h3
    ·exact ⟨u, C, q1, q2, q3, h2⟩⟩
   have HGD : Box (Good K (lds d f n s)) := ⟨hgd⟩
   clear HCG5 hgd HCG
   go_wp2_with (first
    | (refine atLoad 23 ?_; refine wpList_ldMid rfl 23 _ _ rfl Tryz.underlying23 rfl S 0 rfl (K.map (Value.int .u8)) HR1.out.2.1 HR5.out ?_; rw [HR1.out.2.2.1])
    | (go_at_call 56; refine HC7.out.mono ?_; rintro e x6 ⟨u, C, rfl, q1, q2, q3⟩; have H6 : Box (Chs x6 x5.heap.size u C /\ C.map (fun c => c.M.map pl) = ldC d K f n s /\ Below x5.heap.size x5 x6) := ⟨q1, q2, q3⟩; clear q1 q2 q3))
   go_ret2
   obtain ⟨q1, q2, q3⟩ := HFO.out x1 x2 x6 fp2 H1.out H2.out.2.2.2 H2.out.2.2.1 (below_to H25.out H6.out.2.2)
   have hz : w.heap.size <= x5.heap.size := Nat.le_trans q3 H25.out.size
   exact ⟨fp2, q1, q2, .inr ⟨⟨HTE.out, HGD.out⟩, u, C, x5.heap.size, rfl, H6.out.1, hz, fun k hk => by have := H2.out.2.2.1.hi k hk; have := H25.out.size; omega, H6.out.2.1⟩⟩
  ·have HC7 : Box (Calls Tryz.prog 56 #[.agg AK, v] x5 fun e w' => e = .returned (.tuple #[.slice none 0 0, .int .i64 14]) /\ Below x5.heap.size x5 w') := ⟨HCG5.out.mono fun e w' ⟨h1, h2⟩ => by
    rcases h1 with ⟨_, h3⟩ | ⟨h3, _⟩
    ·exact ⟨h3, h2⟩
    ·exact absurd h3 hgd⟩
   have HGD : Box (¬ Good K (lds d f n s)) := ⟨hgd⟩
   clear HCG5 hgd HCG
   go_wp2_with (first
    | (refine atLoad 23 ?_; refine wpList_ldMid rfl 23 _ _ rfl Tryz.underlying23 rfl S 0 rfl (K.map (Value.int .u8)) HR1.out.2.1 HR5.out ?_; rw [HR1.out.2.2.1])
    | (go_at_call 56; refine HC7.out.mono ?_; rintro e x6 ⟨rfl, q3⟩; have H6 : Box (Below x5.heap.size x5 x6) := ⟨q3⟩; clear q3))
   go_ret2
   obtain ⟨q1, q2, q3⟩ := HFO.out x1 x2 x6 fp2 H1.out H2.out.2.2.2 H2.out.2.2.1 (below_to H25.out H6.out)
   exact ⟨fp2, q1, q2, .inl ⟨fun h => HGD.out h.2, rfl⟩⟩
 ·have hdt : decide (Tg = s.tag) = false := by simpa using htg
  rw [hdt] at HEQ
  have HTE : Box (¬ LGood d K f n s) := ⟨fun h => htg (HTG.out.1.symm.trans h.1)⟩
  clear htg hdt
  go_quiet (first | (go_at_call 55; exact Calls.quiet_of_same (HEQ.out _)))
  go_wp2
  go_ret2
  obtain ⟨q1, q2, q3⟩ := HFO.out x1 x2 (x4.drewN nq) fp2 H1.out H2.out.2.2.2 H2.out.2.2.1 (below_drewN HB4.out.1 nq)
  exact ⟨fp2, q1, q2, .inl ⟨HTE.out, rfl⟩⟩
end Go.Proofs.YtjdjbjedfbmgpaaGreatDoor
namespace Go.Proofs.YtjdjbjedfbmgpaaGreatDoor
open Go.RowKit Plain
theorem foldl_of (d : List (Int × List Int)) (hd : d ≠ []) (o : List (List (Int × List Int))) : (ofP d).foldl chSt (o, []) = (o ++ [d], []) := by
 obtain ⟨D, x, rfl⟩ : ∃ D x, d = D ++ [x] := ⟨d.dropLast, d.getLast hd, (List.dropLast_concat_getLast hd).symm⟩
 rw [ofP_snoc, List.foldl_append]
 have key : ∀ (E : List (Int × List Int)) (nw : List (Int × List Int)), (E.map (fun y => (y, false))).foldl chSt (o, nw) = (o, nw ++ E) := by
  intro E
  induction E with
  | nil => intro nw; simp
  | cons y E ih =>
   intro nw
   rw [List.map_cons, List.foldl_cons]
   have : chSt (o, nw) (y, false) = (o, nw ++ [y]) := by simp [chSt]
   rw [this, ih]
   simp
 rw [key]
 simp [chSt]
theorem chS_of (D : List (List (Int × List Int))) (h : ∀ d ∈ D, d ≠ []) : chS ((D.map ofP).flatten) = (D, []) := by
 have key : ∀ (E : List (List (Int × List Int))) (o : List (List (Int × List Int))), (∀ d ∈ E, d ≠ []) -> ((E.map ofP).flatten).foldl chSt (o, []) = (o ++ E, []) := by
  intro E
  induction E with
  | nil => intro o _; simp
  | cons d E ih =>
   intro o hE
   rw [List.map_cons, List.flatten_cons, List.foldl_append, foldl_of d (hE d (by simp)), ih _ (fun x hx => hE x (by simp [hx]))]
   simp
 have := key D [] h
 simpa [chS] using this
theorem last_of (D : List (List (Int × List Int))) (h : ∀ d ∈ D, d ≠ []) (h0 : 0 < ((D.map ofP).flatten).length) : (((D.map ofP).flatten)[((D.map ofP).flatten).length - 1]'(by omega)).2 = true := by
 obtain ⟨E, d, rfl⟩ : ∃ E d, D = E ++ [d] := by
  have : D ≠ [] := by intro e; subst e; simp at h0
  exact ⟨D.dropLast, D.getLast this, (List.dropLast_concat_getLast this).symm⟩
 have hd := h d (by simp)
 obtain ⟨F, x, rfl⟩ : ∃ F x, d = F ++ [x] := ⟨d.dropLast, d.getLast hd, (List.dropLast_concat_getLast hd).symm⟩
 have e : ((E ++ [F ++ [x]]).map ofP).flatten = ((E.map ofP).flatten ++ F.map (fun y => (y, false))) ++ [(x, true)] := by
  simp [ofP_snoc]
 have h2 : (((E ++ [F ++ [x]]).map ofP).flatten)[(((E ++ [F ++ [x]]).map ofP).flatten).length - 1]? = some (x, true) := by
  rw [e]
  simp
 rw [List.getElem?_eq_getElem (by omega)] at h2
 rw [Option.some.inj h2]
def RcOk (r : (Int × List Int) × Bool) : Prop := r.1.2.length = 160 /\ Byt r.1.2 /\ N64 r.1.1
theorem opn_slt (K : List Int) (p : Nat) (v : Int) (r : (Int × List Int) × Bool) (hr : RcOk r) (hv : 1 <= v /\ v <= 9223372036854775807) : Opn K (p, slt K (p : Int) v r) /\ opR K (p, slt K (p : Int) v r) = r := by
 have hl := len_putP r hr.1
 have e : Seal.op K (p : Int) (slt K (p : Int) v r) 176 = putP r := Seal.op_sl K (p : Int) v (putP r) 176 hl (byt_putP r hr.2.1) (by omega) ⟨by omega, by omega⟩
 refine ⟨⟨Seal.sl_fit K (p : Int) v (putP r) 176 hl (by omega) ⟨by omega, by omega⟩ (by omega) (by omega), ?_⟩, ?_⟩
 ·show fitR (Seal.op K (p : Int) (slt K (p : Int) v r) 176)
  rw [e]
  exact fit_putP r hr.1
 ·show getP (Seal.op K (p : Int) (slt K (p : Int) v r) 176) = r
  rw [e]
  exact getP_putP r hr.2.2
structure Jn (d : Disk.Dk) (K : List Int) (f n : Nat) (s : Jst) (R : List ((Int × List Int) × Bool)) : Prop where
 ct : s.count = R.length
 tg : chn (lds d f n s) = s.tag
 op : ∀ x ∈ lds d f n s, Opn K x
 rs : (lds d f n s).map (opR K) = R
theorem jn_nil (d : Disk.Dk) (K : List Int) (f n : Nat) (st : Nat) : Jn d K f n ⟨st, 0, z32⟩ [] := ⟨rfl, rfl, fun x hx => by simp [lds, pcs] at hx, rfl⟩
theorem mod_other (st i c n : Nat) (h1 : i < c) (h2 : c < n) : (st + i) % n ≠ (st + c) % n := by
 intro e
 have h3 := Nat.sub_mod_eq_zero_of_mod_eq e.symm
 rw [show st + c - (st + i) = c - i by omega, Nat.mod_eq_of_lt (by omega)] at h3
 omega
theorem lds_wr (d : Disk.Dk) (f n : Nat) (s : Jst) (T tg : List Int) (hc : s.count < n) : lds (Disk.wrOk d (f + (s.start + s.count) % n) T) f n ⟨s.start, s.count + 1, tg⟩ = lds d f n s ++ [(f + (s.start + s.count) % n, T)] := by
 unfold lds
 show (pcs f n s.start (s.count + 1)).map _ = _
 rw [pcs_succ, List.map_append]
 congr 1
 ·apply List.map_congr_left
  intro p hp
  obtain ⟨i, hi, rfl⟩ := List.mem_map.1 hp
  have hi' : i < s.count := List.mem_range.1 hi
  rw [Disk.lat_wr, if_neg]
  have := mod_other s.start i s.count n hi' hc
  omega
 ·simp [Disk.lat_wr]
theorem Jn.step {d : Disk.Dk} {j : Jt} {s : Jst} {R : List ((Int × List Int) × Bool)} (h : Jn d j.key j.first j.size s R) (hc : s.count < j.size) (nx : Int) (hx : 1 <= nx /\ nx <= 9223372036854775807) (r : (Int × List Int) × Bool) (hr : RcOk r) :
  Jn (Disk.wrOk d (plc j (s.start + s.count)) (slt j.key (plc j (s.start + s.count) : Int) nx r)) j.key j.first j.size (nxS j s (plc j (s.start + s.count)) (slt j.key (plc j (s.start + s.count) : Int) nx r)) (R ++ [r]) := by
 obtain ⟨o1, o2⟩ := opn_slt j.key (plc j (s.start + s.count)) nx r hr hx
 have e := lds_wr d j.first j.size s (slt j.key (plc j (s.start + s.count) : Int) nx r) (lnk s.tag (plc j (s.start + s.count) : Int) (slt j.key (plc j (s.start + s.count) : Int) nx r)) hc
 have e' : lds (Disk.wrOk d (plc j (s.start + s.count)) (slt j.key (plc j (s.start + s.count) : Int) nx r)) j.first j.size (nxS j s (plc j (s.start + s.count)) (slt j.key (plc j (s.start + s.count) : Int) nx r)) = lds d j.first j.size s ++ [(plc j (s.start + s.count), slt j.key (plc j (s.start + s.count) : Int) nx r)] := e
 refine ⟨by show s.count + 1 = _; rw [h.ct]; simp, ?_, ?_, ?_⟩
 ·rw [e', chn_snoc, h.tg]
  rfl
 ·intro x hx
  rw [e'] at hx
  rcases List.mem_append.1 hx with hx | hx
  ·exact h.op x hx
  ·simp only [List.mem_cons, List.not_mem_nil, or_false] at hx
   rw [hx]
   exact o1
 ·rw [e', List.map_append, h.rs]
  simp [o2]
theorem jn_apL (j : Jt) : ∀ (L : List ((Int × List Int) × Bool)) (d : Disk.Dk) (nx : Int) (s : Jst) (R : List ((Int × List Int) × Bool)), Up d -> Jn d j.key j.first j.size s R -> s.count + L.length <= j.size -> (∀ r ∈ L, RcOk r) -> 1 <= nx -> nx + (L.length : Int) <= 9223372036854775807 -> Jn (apL j (d, nx, 0, s) L).1 j.key j.first j.size (apL j (d, nx, 0, s) L).2.2.2 (R ++ L)
 | [], d, nx, s, R, h, hj, _, _, _, _ => by simpa [apL] using hj
 | r :: L, d, nx, s, R, h, hj, hc, hr, h1, h2 => by
  have e : apS j (d, nx, 0, s) r = (Disk.wrOk d (plc j (s.start + s.count)) (apT j (d, nx, 0, s) r), nx + 1, 0, nxS j s (plc j (s.start + s.count)) (apT j (d, nx, 0, s) r)) := by
   unfold apS
   rw [if_neg (by simp), dwr_up h]
   rfl
  have e2 : apL j (d, nx, 0, s) (r :: L) = apL j (Disk.wrOk d (plc j (s.start + s.count)) (apT j (d, nx, 0, s) r), nx + 1, 0, nxS j s (plc j (s.start + s.count)) (apT j (d, nx, 0, s) r)) L := by rw [<- e]; rfl
  simp only [List.length_cons] at hc h2
  have ih := jn_apL j L (Disk.wrOk d (plc j (s.start + s.count)) (apT j (d, nx, 0, s) r)) (nx + 1) (nxS j s (plc j (s.start + s.count)) (apT j (d, nx, 0, s) r)) (R ++ [r]) (up_wr h _ _) (hj.step (by omega) nx ⟨h1, by omega⟩ r (hr r (by simp))) (by show s.count + 1 + L.length <= _; omega) (fun x hx => hr x (by simp [hx])) (by omega) (by omega)
  rw [e2]
  simpa using ih
theorem rcOk_of (L : List (Int × List Int)) (h : ∀ x ∈ L, x.2.length = 160 /\ Byt x.2 /\ N64 x.1) : ∀ r ∈ ofP L, RcOk r := by
 intro r hr
 obtain ⟨i, hi, rfl⟩ := List.getElem_of_mem hr
 simp only [ofP, List.getElem_mapIdx]
 exact h _ (List.getElem_mem _)
theorem jn_appM (j : Jt) (ok : j.Ok) (d : Disk.Dk) (L : List (Int × List Int)) (hd : Up d) (hb : bad L = false) (h1 : j.st.count + L.length <= j.size) (h2 : j.nx + (L.length : Int) <= j.lim) (hL : ∀ x ∈ L, x.2.length = 160 /\ Byt x.2 /\ N64 x.1) {R : List ((Int × List Int) × Bool)} (hj : Jn d j.key j.first j.size j.st R) : Jn (appM j d L).1 j.key j.first j.size (appM j d L).2.2.2 (R ++ ofP L) := by
 have ht : tke j L.length = 0 := by
  unfold tke
  rw [if_neg (by omega), if_neg (by omega)]
 have h := apL_up j (ofP L) d j.nx j.st hd ⟨ok.st.lt, ok.st.bt⟩
 have e : appM j d L = apL j (d, j.nx, 0, j.st) (ofP L) := by
  unfold appM
  rw [if_neg (by rw [hb]; simp), if_neg (fun h => h ht), if_neg (fun hh => hh h.er)]
 rw [e]
 have hnx := ok.nx
 have hlm := ok.lim
 exact jn_apL j (ofP L) d j.nx j.st R hd hj (by rw [len_ofP]; exact h1) (rcOk_of L hL) hnx.1 (by rw [len_ofP]; omega)
theorem jn_load {d : Disk.Dk} {K : List Int} {f n : Nat} {s : Jst} {X : List (List (Int × List Int))} (h : Jn d K f n s ((X.map ofP).flatten)) (hX : ∀ x ∈ X, x ≠ []) : LGood d K f n s /\ ldC d K f n s = X := by
 refine ⟨⟨h.tg, h.op, ?_⟩, ?_⟩
 ·rw [h.rs]
  exact fun h0 => last_of X hX h0
 ·unfold ldC
  rw [h.rs, chS_of X hX]
end Go.Proofs.YtjdjbjedfbmgpaaGreatDoor
