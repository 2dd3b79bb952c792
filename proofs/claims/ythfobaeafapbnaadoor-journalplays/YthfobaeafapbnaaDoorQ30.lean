/-
 Rows of structs made and set; what Of of package record answers. And what follows it.
-/
import Derived.Test.YthfobaeafapbnaaDoorQ29
import Derived.Laws.IdiomStrings
set_option linter.unusedVariables false
set_option maxRecDepth 100000
namespace Go.Proofs.YthfobaeafapbnaaDoor
open Go.RowKit Plain
theorem exec_make {P : Program} {o : Oper} {ρ : Operand -> Value} {w : World} (t e : TypeId) (l c : Operand) (ho : o.op = .makeSlice t l c) (z : Value) (size bytes : Nat) (ht : P.underlying t = some (.slice e)) (hi : (P.info? e).map (fun i => (i.zero, i.size, i.bytes)) = some (some z, size, bytes))
  (n : Nat) (hl : ρ l = .int .i64 (n : Int)) (hc : ρ c = .int .i64 (n : Int)) (hb : bytes * n <= 281474976710656) (h63 : n <= 9223372036854775807) :
  (execOp ρ o).run P w = .ok (.value (.slice (some ⟨w.heap.size, 0, none⟩) n n)) (w.alloc (.cells (madeCells z.cells (n * size)) e)) := by
 obtain ⟨i, hi1, hz, rfl, rfl⟩ := info_parts hi
 have hb' : (i.bytes : Int) * (n : Int) <= 281474976710656 := by
  have h : ((i.bytes * n : Nat) : Int) <= 281474976710656 := by omega
  rwa [Int.natCast_mul] at h
 have hr := run_make (P := P) w t e i z ht hi1 hz .i64 .i64 n n (by omega) (Int.le_refl _) hb' (by omega)
 unfold execOp
 simp only [ho, hl, hc, hr, Sem.run_bind, Sem.run_pure, Result.andThen_ok, Int.toNat_natCast]
theorem atMake {P : Program} {ops : Array Oper} {Q : Exit -> Act -> World -> Prop} {rest : List Oper} {a : Act} {w : World} (t : TypeId) {x y : Operand} {d : Option Tmp} {ty : TypeId} {p : String} {af : Array Edge} {g : Option (Nat × Bool)} (h : wpList P ops Q ({ dst := d, op := .makeSlice t x y, type := ty, pos := p, after := af, guard := g } :: rest) a w) : wpList P ops Q ({ dst := d, op := .makeSlice t x y, type := ty, pos := p, after := af, guard := g } :: rest) a w := h
theorem made_flat {α : Type} (f : α -> List Value) (sz : Nat) (hf : ∀ y, (f y).length = sz) (hsz : 0 < sz) (x : α) (z : Array Value) (hz : z.toList = f x) (n : Nat) : madeCells z (n * sz) = ((List.replicate n x).map f).flatten.toArray := by
 have hs : z.size = sz := by rw [<- Array.length_toList, hz, hf]
 apply Array.toList_inj.1
 apply List.ext_getElem?
 intro p
 simp only [madeCells]
 by_cases hp : p < n * sz
 ·have hi : p / sz < n := (Nat.div_lt_iff_lt_mul hsz).2 hp
  have hj : p % sz < sz := Nat.mod_lt _ hsz
  have e := flat_get f sz hf (List.replicate n x) (p / sz) (by simpa using hi) (p % sz) hj
  have hpe : p / sz * sz + p % sz = p := by rw [Nat.mul_comm]; exact Nat.div_add_mod p sz
  rw [hpe] at e
  rw [e]
  have hlt : p % sz < z.size := by omega
  have e3 : (f ((List.replicate n x)[p / sz]'(by simpa using hi)))[p % sz]? = some z[p % sz] := by
   rw [List.getElem_replicate, <- hz, Array.getElem?_toList, Array.getElem?_eq_getElem hlt]
  rw [e3]
  simp [hp, hs, getElem!_pos z (p % sz) hlt]
 ·rw [List.getElem?_eq_none (by simp; omega), List.getElem?_eq_none (by rw [flat_len f sz hf]; simp; omega)]
theorem splice_set_one (L : List Value) (k : Nat) (v : Value) (h : k < L.length) : L.set k v = splice L k [v] := by
 simp only [splice, List.length_cons, List.length_nil]
 rw [List.set_eq_take_append_cons_drop, if_pos h]
 simp
theorem flat_split {α : Type} (f : α -> List Value) (M : List α) (k : Nat) (hk : k < M.length) : (M.map f).flatten = ((M.take k).map f).flatten ++ (f M[k] ++ ((M.drop (k + 1)).map f).flatten) := by
 have e : M = M.take k ++ M[k] :: M.drop (k + 1) := by rw [<- List.drop_eq_getElem_cons hk, List.take_append_drop]
 calc (M.map f).flatten = ((M.take k ++ M[k] :: M.drop (k + 1)).map f).flatten := by rw [<- e]
  _ = _ := by simp only [List.map_append, List.map_cons, List.flatten_append, List.flatten_cons]
theorem splice_flat {α : Type} (f : α -> List Value) (sz : Nat) (hf : ∀ y, (f y).length = sz) (M : List α) (k : Nat) (hk : k < M.length) (p : Nat) (cs : List Value) (x : α) (hx : f x = splice (f M[k]) p cs) (hp : p + cs.length <= sz) : splice (M.map f).flatten (k * sz + p) cs = ((M.set k x).map f).flatten := by
 have hk2 : k < (M.set k x).length := by simpa using hk
 have e2 := flat_split f (M.set k x) k hk2
 have h1 : ((M.set k x)[k]) = x := by simp
 have h2 : (M.set k x).take k = M.take k := by rw [List.take_set_of_le (Nat.le_refl _)]
 have h3 : (M.set k x).drop (k + 1) = M.drop (k + 1) := by rw [List.drop_set_of_lt (by omega)]
 rw [h1, h2, h3] at e2
 rw [e2, flat_split f M k hk, hx]
 have hl : ((M.take k).map f).flatten.length = k * sz := by rw [flat_len f sz hf, List.length_take, Nat.min_eq_left (Nat.le_of_lt hk)]
 have hfl := hf M[k]
 generalize ((M.take k).map f).flatten = A at hl
 generalize ((M.drop (k + 1)).map f).flatten = C
 generalize f M[k] = B at hfl
 simp only [splice]
 rw [List.take_append, List.drop_append, List.drop_append, List.take_of_length_le (show A.length <= k * sz + p by omega), hl, List.drop_of_length_le (show A.length <= k * sz + p + cs.length by omega), List.take_append, List.nil_append]
 rw [show k * sz + p - k * sz = p by omega, show k * sz + p + cs.length - k * sz = p + cs.length by omega, show p - B.length = 0 by omega, show p + cs.length - B.length = 0 by omega]
 simp [List.append_assoc]
theorem wpList_stMid {ops : Array Oper} {rest : List Oper} {o : Oper} {a : Act} {w : World} {Q : Exit -> Act -> World -> Prop} (hg : o.guard = none) (t : TypeId) (x y : Operand) (ho : o.op = .store t x y) (g off : Nat) (cells : Array Value) (hx : a.eval x = .pointer (some ⟨g, off, none⟩)) (hy : a.eval y = .agg cells) (hth : w.there g off cells.size) (hi : (Tryd.prog.info? t).map (·.size) = some cells.size) (h1 : cells.all (·.oneCell') = true)
  (h : wpList Tryd.prog ops Q rest (a.put o.dst undef) (w.setCells g off cells.toList)) : wpList Tryd.prog ops Q (o :: rest) a w :=
 wpList_plain hg fun _ hK => wp_store_mid t x y ho g off cells hx hy hth hi h1 (hK _ _ h)
def ofP (L : List (Int × List Int)) : List ((Int × List Int) × Bool) := L.mapIdx fun i x => (x, decide (i + 1 = L.length))
theorem ofP_snoc (D : List (Int × List Int)) (x : Int × List Int) : ofP (D ++ [x]) = D.map (fun y => (y, false)) ++ [(x, true)] := by
 unfold ofP
 rw [List.mapIdx_append]
 congr 1
 ·apply List.ext_getElem (by simp)
  intro i h1 h2
  simp at h1 h2
  simp; omega
 ·simp
def rf (m : Im) : Rc := ⟨m, false⟩
structure OfK (w wr : World) (M : List Im) (g n k : Nat) (Q : List Im) : Prop where
 row : wr.heap[g]? = some (.cells ((Q.map rf ++ List.replicate (n - k) zrc).map rcc).flatten.toArray 101 (0, 0))
 len : Q.length = k
 pls : Q.map pl = (M.map pl).take k
 byt : ∀ m ∈ Q, OIm wr w.heap.size m
 bel : Below w.heap.size w wr
 lo : w.heap.size <= g
theorem OIm.but {w w' : World} {B G : Nat} {m : Im} {cs : Array Value} {t : TypeId} {fr : Nat × Nat} (h : OIm w B m) (hG : w.heap[G]? = some (.cells cs t fr)) (ht : t ≠ 5) (hb : But G w w') : OIm w' B m :=
 ⟨own_same h.own (fun k hk => hb.block k (h.own.lt k hk).2 (fun e => by
  obtain ⟨_, c1, h1⟩ := own_blk h.own k hk
  rw [e, hG] at h1
  simp only [Option.some.injEq, Obj.cells.injEq] at h1
  exact ht h1.2.1)), h.byt, h.num⟩
theorem OfK.step {w wr wx : World} {M : List Im} {g n k : Nat} {Q : List Im} (h : OfK w wr M g n k Q) (hn : M.length = n) (hk : k < n) (hb : Below wr.heap.size wr wx) (m' : Im) (hp : pl m' = pl (M[k]'(by omega))) (ho : OIm wx w.heap.size m') : OfK w (wx.setCells g (k * 3) (imc m')) M g n (k + 1) (Q ++ [m']) := by
 have hg : g < wr.heap.size := (Array.getElem?_eq_some_iff.1 h.row).1
 have hrx := (hb.block g hg).trans h.row
 have hbut : But g wx (wx.setCells g (k * 3) (imc m')) := but_setCells _ _ _ _ _ (But.refl _ _)
 have hL : (Q.map rf ++ List.replicate (n - k) zrc).length = n := by simp [h.len]; omega
 have hk2 : k < (Q.map rf ++ List.replicate (n - k) zrc).length := by omega
 have hat : (Q.map rf ++ List.replicate (n - k) zrc)[k] = zrc := by
  rw [List.getElem_append_right (by simp [h.len])]
  simp
 refine ⟨?_, by simp [h.len], ?_, fun m hm => ?_, ?_, h.lo⟩
 ·rw [setCells_row g _ (imc m') (k * 3) _ _ hrx (by rw [flat_len rcc 3 (fun _ => rfl), hL]; show k * 3 + 2 <= n * 3; omega)]
  have e := splice_flat rcc 3 (fun _ => rfl) (Q.map rf ++ List.replicate (n - k) zrc) k hk2 0 (imc m') (rf m') (by rw [hat]; rfl) (by show 0 + 2 <= 3; omega)
  rw [Nat.add_zero] at e
  rw [e]
  congr 4
  obtain ⟨d, hd⟩ : ∃ d, n - k = d + 1 := ⟨n - k - 1, by omega⟩
  have hd' : n - (k + 1) = d := by omega
  rw [hd, hd', List.set_append_right _ _ (by simp [h.len])]
  simp [h.len, List.replicate_succ]
 ·have hk3 : k < (M.map pl).length := by simp; omega
  rw [List.map_append, h.pls, List.take_succ_eq_append_getElem hk3]
  simp [hp]
 ·rcases List.mem_append.1 hm with hm | hm
  ·exact ((h.byt m hm).to hb).but hrx (by decide) hbut
  ·simp only [List.mem_cons, List.not_mem_nil, or_false] at hm
   subst hm
   exact ho.but hrx (by decide) hbut
 ·exact below_but (below_to h.bel hb) hbut h.lo (below_to h.bel hb).size
theorem OfK.fin {w wr : World} {M : List Im} {g n : Nat} {Q : List Im} (h : OfK w wr M g n n Q) (hn : M.length = n) (h0 : 0 < n) (hl : n <= 1000) : ∃ R, ORecs (wr.setCell ⟨g, (n - 1) * 3 + 2, none⟩ (.bool true)) w.heap.size (.slice (some ⟨g, 0, none⟩) n n) R /\ R.length = n /\ R.map rpl = ofP (M.map pl) /\ Below w.heap.size w (wr.setCell ⟨g, (n - 1) * 3 + 2, none⟩ (.bool true)) := by
 obtain ⟨D, m, rfl⟩ : ∃ D m, Q = D ++ [m] := by
  have : Q ≠ [] := by intro e; have := h.len; rw [e] at this; simp at this; omega
  exact ⟨Q.dropLast, Q.getLast this, (List.dropLast_concat_getLast this).symm⟩
 have hDl : D.length = n - 1 := by have := h.len; simp at this; omega
 have hrow := h.row
 rw [Nat.sub_self, List.replicate_zero, List.append_nil] at hrow
 have hbut : But g wr (wr.setCell ⟨g, (n - 1) * 3 + 2, none⟩ (.bool true)) := (But.refl _ _).setCell _ _
 have hrow2 : (wr.setCell ⟨g, (n - 1) * 3 + 2, none⟩ (.bool true)).heap[g]? = some (.cells ((D.map rf ++ [(⟨m, true⟩ : Rc)]).map rcc).flatten.toArray 101 (0, 0)) := by
  rw [heap_setCell_same wr g _ _ _ _ hrow]
  have e := splice_flat rcc 3 (fun _ => rfl) ((D ++ [m]).map rf) (n - 1) (by simp [hDl]) 2 [.bool true] ⟨m, true⟩ (by
   have : ((D ++ [m]).map rf)[n - 1]'(by simp [hDl]) = rf m := by simp [List.getElem_append_right, hDl]
   rw [this]; rfl) (by decide)
  have e2 : splice (((D ++ [m]).map rf).map rcc).flatten ((n - 1) * 3 + 2) [Value.bool true] = (((D ++ [m]).map rf).map rcc).flatten.set ((n - 1) * 3 + 2) (.bool true) := by
   refine (splice_set_one _ _ _ ?_).symm
   rw [flat_len rcc 3 (fun _ => rfl)]
   simp [hDl]
   omega
  rw [e2] at e
  rw [List.setIfInBounds_toArray, e]
  congr 4
  rw [List.map_append, List.set_append_right _ _ (by simp [hDl])]
  simp [hDl]
 have hpl := h.pls
 rw [List.take_of_length_le (by simp; omega)] at hpl
 refine ⟨D.map rf ++ [⟨m, true⟩], ⟨⟨?_, ?_⟩, fun r hr => ?_⟩, by simp [hDl]; omega, ?_, below_but h.bel hbut h.lo h.bel.size⟩
 ·rw [flat_len rcc 3 (fun _ => rfl)]
 ·have hln : (D.map rf ++ [(⟨m, true⟩ : Rc)]).length = n := by simp [hDl]; omega
  rw [hln]
  exact .inr ⟨g, n, _, rfl, h.lo, hrow2, Nat.le_refl _, by unfold maxLen; omega, by rw [List.size_toArray, flat_len rcc 3 (fun _ => rfl), hln], List.take_of_length_le (by rw [flat_len rcc 3 (fun _ => rfl), hln]; exact Nat.le_refl _)⟩
 ·have hmm : r.m ∈ D ++ [m] := by
   rcases List.mem_append.1 hr with hr | hr
   ·obtain ⟨y, hy, rfl⟩ := List.mem_map.1 hr
    exact List.mem_append_left _ hy
   ·have : r = ⟨m, true⟩ := by simpa using hr
    subst this
    simp
  exact (h.byt r.m hmm).but hrow (by decide) hbut
 ·rw [<- hpl, List.map_append, List.map_append]
  simp only [List.map_cons, List.map_nil]
  rw [ofP_snoc]
  simp [rpl, rf]
set_option maxRecDepth 20000 in
set_option maxHeartbeats 2000000 in
theorem of_ok (a : Option Addr) (cap : Nat) (M : List Im) (w : World) (h : Imgs w a M) (hl : M.length <= 1000) (h0 : 0 < M.length) (hall : ∀ m ∈ M, m.bl = 160) :
  Calls Tryd.prog 35 #[.slice a M.length cap] w fun e w' => ∃ g R, e = .returned (.tuple #[.slice (some ⟨g, 0, none⟩) M.length M.length, .int .i64 0]) /\ ORecs w' w.heap.size (.slice (some ⟨g, 0, none⟩) M.length M.length) R /\ R.length = M.length /\ R.map rpl = ofP (M.map pl) /\ Below w.heap.size w w' := by
 have HM : Box ((∀ x, Below w.heap.size w x -> Imgs x a M) /\ ∀ m ∈ M, m.bl = 160) := ⟨fun x hx => h.below hx, hall⟩
 obtain ⟨b, o, rfl, hbl, hr⟩ := h.tb h0
 obtain ⟨n, hn⟩ : ∃ n, M.length = n := ⟨_, rfl⟩
 rw [hn] at hl h0 ⊢
 have HN : Box (M.length = n) := ⟨hn⟩
 have hz : ((n : Int) == 0) = false := by simp; omega
 have HMK : Box (40 * n <= 281474976710656 /\ n <= 9223372036854775807) := ⟨by omega, by omega⟩
 obtain ⟨g, hg⟩ : ∃ g, w.heap.size = g := ⟨_, rfl⟩
 obtain ⟨w1, hw1⟩ : ∃ w1, w.alloc (.cells ((List.replicate n zrc).map rcc).flatten.toArray 101) = w1 := ⟨_, rfl⟩
 have HK0 : Box (OfK w w1 M g n 0 []) := ⟨⟨by rw [<- hw1]; simp only [List.map_nil, List.nil_append, Nat.sub_zero]; exact al_at hg, rfl, by simp, fun m hm => by simp at hm, by rw [<- hw1]; exact (Below.refl _ _).alloc (Nat.le_refl _) _, Nat.le_of_eq hg⟩⟩
 have HMC : Box (w.alloc (.cells (madeCells #[.int .u64 0, .slice none 0 0, .bool false] (n * 3)) 101) = w1) := ⟨by rw [<- hw1, made_flat rcc 3 (fun _ => rfl) (by decide) zrc #[.int .u64 0, .slice none 0 0, .bool false] rfl n]⟩
 have HOK : Box (M.length = n /\ ∀ wr k Q, OfK w wr M g n k Q -> ∀ hk : k < M.length, wr.rangeAt b (o + k * 2) (imc M[k]) /\ Bytes wr M[k].ba M[k].bl M[k].bs /\ N64 M[k].blk /\ M[k].bl = 160 /\ b < wr.heap.size) := ⟨hn, fun wr k Q hK hk => by
  have hb := (HM.out.1 wr hK.bel).byt M[k] (List.getElem_mem hk)
  exact ⟨range_below hK.bel (hr k hk) hbl, hb.1, hb.2.1, HM.out.2 _ (List.getElem_mem hk), Nat.lt_of_lt_of_le hbl hK.bel.size⟩⟩
 clear h hall hr hw1
 go_enter Tryd.func35, Tryd.ntmps35
 go_upto_region 4 with (refine atMake _ ?_; refine wpList_run rfl _ _ (exec_make 96 101 _ _ rfl _ 3 40 Tryd.underlying96 infRc n rfl rfl HMK.out.1 HMK.out.2) ?_)
 have hcz : (Value.agg #[.int .u64 0, .slice none 0 0, .bool false]).cells = #[.int .u64 0, .slice none 0 0, .bool false] := rfl
 (try simp only [HMC.out])
 clear hcz
 go_wp2
 go_loopw [15] (fun i wr => ∃ (k : Nat) (Q : List Im), k <= n /\ i = .int .i64 (k : Int) /\ Box (OfK w wr M g n k Q)) (fun i _ => n - (intOf i).toNat)
 case atStart => exact ⟨0, [], Nat.zero_le _, rfl, HK0⟩
 case round =>
  obtain ⟨k, Q, hk, rfl, HK⟩ := hrel
  by_cases hlt : k < n
  ·have hlt1 : decide ((k : Int) < (n : Int)) = true := by simp; omega
   have hkm : k < M.length := by omega
   have hF := HOK.out.2 wr k Q HK.out hkm
   have HST : Box (∀ wx m', Below wr.heap.size wr wx -> pl m' = pl M[k] -> OIm wx w.heap.size m' -> ∃ Q', OfK w (wx.setCells g (k * 3) (imc m')) M g n (k + 1) Q') := ⟨fun wx m' h1 h2 h3 => ⟨_, HK.out.step HOK.out.1 hlt h1 m' h2 h3⟩⟩
   obtain ⟨⟨blk, ba, bl, bc, bs⟩, hmm⟩ : ∃ m, M[k] = m := ⟨_, rfl⟩
   rw [hmm] at hF HST
   simp only at hF
   have HR : Box (wr.rangeAt b (o + k * 2) [.int .u64 blk, .slice ba bl bc]) := ⟨hF.1⟩
   have HF2 : Box (∀ x, Below wr.heap.size wr x -> Bytes x ba bl bs) := ⟨fun x hx => hF.2.1.below hx⟩
   have HF3 : Box (N64 blk /\ bl = 160) := ⟨hF.2.2.1, hF.2.2.2.1⟩
   have HROW : Box (∀ x, Below wr.heap.size wr x -> x.there g (k * 3) 2) := ⟨fun x hx => there_row ((hx.block g (Array.getElem?_eq_some_iff.1 HK.out.row).1).trans HK.out.row) (by
    have := flat_len rcc 3 (fun _ => rfl) (Q.map rf ++ List.replicate (n - k) zrc)
    simp only [List.length_append, List.length_map, List.length_replicate, HK.out.len] at this
    simp only [List.size_toArray]
    rw [this]
    omega)⟩
   have HBL : Box (w.heap.size <= wr.heap.size) := ⟨HK.out.bel.size⟩
   have HLT : Box (k < n) := ⟨hlt⟩
   have HWH : Box (((bl : Int) == 160) = true) := ⟨by rw [HF3.out.2]; rfl⟩
   have hw4 : IntKind.i64.wrap ((k : Int) + 1) = ((k + 1 : Nat) : Int) := by rw [IntKind.wrap_i64]; omega
   clear hF hmm hkm
   go_upto_region 7 with (first
    | (refine atIdx 50 ?_; refine wpList_run rfl _ _ (exec_idxT 50 65 Tryd.underlying50 2 infoIm _ _ rfl b o n cap k rfl rfl HLT.out) ?_)
    | (refine atLoad 65 ?_; refine wpList_ldMid rfl 65 _ _ rfl Tryd.underlying65 rfl b (o + k * 2) rfl [.int .u64 blk, .slice ba bl bc] infoIm HR.out ?_)
    | (refine atAlloc _ ?_; refine wpList_run rfl _ _ (exec_alloc 65 rfl _ zeroIm) ?_)
    | (refine atStore _ ?_; refine wpList_newRow wr #[.int .u64 0, .slice none 0 0] #[.int .u64 blk, .slice ba bl bc] infoIm rfl (by simp [Value.oneCell']) rfl _ _ rfl rfl rfl rfl ?_; intro x1 h1 hb1; have H1 : Box (x1.heap[wr.heap.size]? = some (.cells #[.int .u64 blk, .slice ba bl bc] 65 (0, 0)) /\ Below wr.heap.size wr x1) := ⟨h1, hb1⟩; clear h1 hb1))
   obtain ⟨B, hB⟩ : ∃ B, wr.heap.size = B := ⟨_, rfl⟩
   simp only [hB]
   have HBX : Box (∀ x, Below x1.heap.size x1 x -> x.rangeAt B 0 [.int .u64 blk, .slice ba bl bc] /\ Below wr.heap.size wr x) := ⟨fun x hx => by
    have h3 := H1.out
    rw [hB] at h3
    have r := (hx.block B (Array.getElem?_eq_some_iff.1 h3.1).1).trans h3.1
    exact ⟨range_arr r _ (fun j v hv => by simpa using hv), below_to H1.out.2 hx⟩⟩
   have HR1 : Box (x1.rangeAt B 0 [.int .u64 blk, .slice ba bl bc]) := ⟨(HBX.out x1 (Below.refl _ _)).1⟩
   clear hB
   go_upto_region 9 with (first
    | (refine atLoad 65 ?_; refine wpList_ldMid rfl 65 _ _ rfl Tryd.underlying65 rfl B 0 rfl [.int .u64 blk, .slice ba bl bc] infoIm HR1.out ?_)
    | (go_at_call 52; refine (whole_any ⟨blk, ba, bl, bc, bs⟩ true HWH.out _).mono ?_; rintro e x2 ⟨rfl, hbx⟩; have H2 : Box (Below x1.heap.size x1 x2) := ⟨hbx⟩; clear hbx))
   have HR2 : Box (x2.rangeAt B 0 [.int .u64 blk, .slice ba bl bc]) := ⟨(HBX.out x2 H2.out).1⟩
   have HOW : Box (Calls Tryd.prog 53 #[.agg #[.int .u64 blk, .slice ba bl bc]] x2 fun e w' => ∃ m', e = .returned (.agg (imc m').toArray) /\ Owned x2 w' ⟨blk, ba, bl, bc, bs⟩ m') := ⟨own_any ⟨blk, ba, bl, bc, bs⟩ x2 (HF2.out x2 (HBX.out x2 H2.out).2) HF3.out.1 (by show bl < 1000000; rw [HF3.out.2]; decide)⟩
   clear HR1
   go_wp2_with (first
    | (refine atLoad 65 ?_; refine wpList_ldMid rfl 65 _ _ rfl Tryd.underlying65 rfl B 0 rfl [.int .u64 blk, .slice ba bl bc] infoIm HR2.out ?_)
    | (go_at_call 53; refine HOW.out.mono ?_; rintro e x3 ⟨⟨mb, ma, ml, mc, ms⟩, rfl, hO⟩; have H3 : Box (Below wr.heap.size wr x3 /\ pl ⟨mb, ma, ml, mc, ms⟩ = pl ⟨blk, ba, bl, bc, bs⟩ /\ OIm x3 w.heap.size ⟨mb, ma, ml, mc, ms⟩) := ⟨below_to (HBX.out x2 H2.out).2 hO.2.2.2, hO.1, hO.2.2.1.low (by have := (HBX.out x2 H2.out).2.size; have := HBL.out; omega)⟩; clear hO)
    | (refine atIdx 96 ?_; refine wpList_run rfl _ _ (exec_idxT 96 101 Tryd.underlying96 3 infoRc _ _ rfl g 0 n n k rfl rfl HLT.out) ?_; rw [Nat.zero_add])
    | (refine atStore _ ?_; refine wpList_stMid rfl 65 _ _ rfl g (k * 3) #[.int .u64 mb, .slice ma ml mc] rfl rfl (HROW.out x3 H3.out.1) infoIm (by simp [Value.oneCell']) ?_))
   obtain ⟨Q', hQ'⟩ := HST.out x3 ⟨mb, ma, ml, mc, ms⟩ H3.out.1 H3.out.2.1 H3.out.2.2
   go_roundw
   case rel => exact ⟨k + 1, Q', HLT.out, by go_num, ⟨hQ'⟩⟩
   case measure => simp [intOf]; have := HLT.out; omega
  ·obtain rfl : k = n := by omega
   have hlt1 : decide ((k : Int) < (k : Int)) = false := by simp
   have HFI : Box _ := ⟨HK.out.fin HN.out (by omega) hl⟩
   have hrow := HK.out.row
   have hlen := HK.out.len
   have hsz : (k - 1) * 3 + 2 < ((Q.map rf ++ List.replicate (k - k) zrc).map rcc).flatten.length := by
    rw [flat_len rcc 3 (fun _ => rfl)]
    simp [hlen]
    omega
   have hf : wr.frozen? ⟨g, (k - 1) * 3 + 2, none⟩ = false := frozen_of_row wr g _ _ _ hrow
   obtain ⟨vv, hcv⟩ := cell_row wr g ((k - 1) * 3 + 2) _ _ hrow hsz
   have hw6 : IntKind.i64.wrap ((k : Int) - 1) = ((k - 1 : Nat) : Int) := by rw [IntKind.wrap_i64]; omega
   have hsub : ((k : Int) - 1) = ((k - 1 : Nat) : Int) := by omega
   have HKL : Box (k - 1 < k) := ⟨by omega⟩
   clear hrow hlen hsz
   go_wp2_with (refine atIdx 96 ?_; (try rw [hsub]); refine wpList_run rfl _ _ (exec_idxT 96 101 Tryd.underlying96 3 infoRc _ _ rfl g 0 k k (k - 1) rfl rfl HKL.out) ?_; rw [Nat.zero_add])
   obtain ⟨R, h1, h2, h3, h4⟩ := HFI.out
   go_ret2
   exact ⟨g, R, rfl, h1, h2, h3, h4⟩
theorem str_size (L : List Int) : (strOfNums L).size = L.length := by
 show (strOfNums L).data.size = L.length
 simp [strOfNums]
theorem str_app (A B : List Int) : strOfNums A ++ strOfNums B = strOfNums (A ++ B) := by
 apply ByteArray.ext
 simp [strOfNums]
theorem built_I (b : Int) (s : ByteArray) : Tryd.prog.built 114 [(0, .int .u64 b), (1, .string s)] = some #[.int .u64 b, .string s] := by kernel_rfl
theorem built_Rr (b : Int) (s : ByteArray) (x : Bool) : Tryd.prog.built 116 [(0, .agg #[.int .u64 b, .string s]), (1, .bool x)] = some #[.int .u64 b, .string s, .bool x] := by kernel_rfl
theorem infoRr : (Tryd.prog.info? 116).map (·.size) = some 3 := by kernel_rfl
theorem infRr : (Tryd.prog.info? 116).map (fun i => (i.zero, i.size, i.bytes)) = some (some (.agg #[.int .u64 0, .string ByteArray.empty, .bool false]), 3, 32) := by kernel_rfl
theorem infoI : (Tryd.prog.info? 114).map (·.size) = some 2 := by kernel_rfl
theorem infI : (Tryd.prog.info? 114).map (fun i => (i.zero, i.size, i.bytes)) = some (some (.agg #[.int .u64 0, .string ByteArray.empty]), 2, 24) := by kernel_rfl
theorem rput8 (x : Int) (w : World) (hx : N64 x) :
  Calls Tryd.prog 64 #[.int .u64 x, .int .i64 8] w fun e w' => ∃ a c, e = .returned (.slice a 8 c) /\ Bytes w' a 8 (bytesOf x 8) /\ Below w.heap.size w w' :=
 (rput_any x 8 8 w hx rfl (by omega)).mono fun e w' ⟨a, c, he, ho⟩ => ⟨a, c, he, ho.bytes (bytesOf_bd _ 8), ho.2.2⟩
theorem b257 : bytesOf 257 8 = [1, 1, 0, 0, 0, 0, 0, 0] := by decide
theorem b1 : bytesOf 1 8 = [1, 0, 0, 0, 0, 0, 0, 0] := by decide
theorem own_row8 {w : World} {g B : Nat} {A : List Int} (hl : A.length = 8) (hB : B <= g) (h : w.heap[g]? = some (.cells (u8s A) 5 (0, 0))) : w.ownsRow B 5 1 (.slice (some ⟨g, 0, none⟩) 8 8) 8 (A.map (Value.int .u8)) :=
 ⟨by simp [hl], .inr ⟨g, 8, _, rfl, hB, h, Nat.le_refl _, by decide, by simp [u8s, hl], by simp [u8s]; rw [List.take_of_length_le (by simp [hl])]⟩⟩
theorem exec_cat {o : Oper} {ρ : Operand -> Value} {w' : World} (x y : Operand) (ty : TypeId) (ho : o.op = .binOp .add 9 x y ty) (a b : ByteArray) (hx : ρ x = .string a) (hy : ρ y = .string b) (hab : a.size + b.size <= 9223372036854775807) :
  (execOp ρ o).run Tryd.prog w' = .ok (.value (.string (a ++ b))) w' := by
 unfold execOp
 simp [ho, hx, hy, eqGuard, binOp, Op.stringOp]
 omega
set_option maxRecDepth 20000 in
set_option maxHeartbeats 1000000 in
theorem rrput_ok (x : (Int × List Int) × Bool) (hl : x.1.2.length = 160) (hn : N64 x.1.1) (w : World) :
  Calls Tryd.prog 44 #[.agg (rrc x).toArray] w fun e w' => e = .returned (.tuple #[.string (strOfNums (putP x)), .int .i64 0]) /\ Below w.heap.size w w' := by
 obtain ⟨⟨blk, L⟩, last⟩ := x
 simp only at hl hn
 unfold rrc
 simp only
 obtain ⟨s, hs⟩ : ∃ s, strOfNums L = s := ⟨_, rfl⟩
 have hsz : s.size = 160 := by rw [<- hs, str_size]; exact hl
 rw [hs]
 obtain ⟨sr, HSR⟩ : ∃ sr, Box (strOfNums (putP ((blk, L), last)) = sr) := ⟨_, ⟨rfl⟩⟩
 rw [HSR.out]
 obtain ⟨sh, HSH⟩ : ∃ sh, Box (strOfNums (bytesOf (hd last) 8 ++ bytesOf blk 8) = sh) := ⟨_, ⟨rfl⟩⟩
 have HSM : Box (sh.size + s.size <= 9223372036854775807) := ⟨by rw [<- HSH.out, str_size, hsz]; simp [length_bytesOf]⟩
 have hcat : sh ++ s = sr := by rw [<- HSH.out, <- hs, <- HSR.out, str_app]; rfl
 obtain ⟨S, hS⟩ : ∃ S, w.heap.size = S := ⟨_, rfl⟩
 obtain ⟨w1, hw1⟩ : ∃ w1, w.alloc (.cells #[.int .u64 blk, .string s, .bool last] 116) = w1 := ⟨_, rfl⟩
 have hb1 : Below w.heap.size w w1 := by rw [<- hw1]; exact (Below.refl _ _).alloc (Nat.le_refl _) _
 have hs1 : w1.heap.size = S + 1 := by rw [<- hw1]; simp [hS]
 have r1 : w1.heap[S]? = some (.cells #[.int .u64 blk, .string s, .bool last] 116 (0, 0)) := by rw [<- hw1]; exact al_at hS
 have HR : Box (∀ y, Below (S + 1) w1 y -> y.cell? ⟨S, 0, none⟩ = some (.int .u64 blk) /\ y.cell? ⟨S, 1, none⟩ = some (.string s) /\ y.cell? ⟨S, 2, none⟩ = some (.bool last)) := ⟨fun y hy => by
  have r := (hy.block S (by omega)).trans r1
  exact ⟨by rw [cell_of_row _ _ _ _ _ _ r]; rfl, by rw [cell_of_row _ _ _ _ _ _ r]; rfl, by rw [cell_of_row _ _ _ _ _ _ r]; rfl⟩⟩
 have HB : Box (Below w.heap.size w w1 /\ w.heap.size = S) := ⟨hb1, hS⟩
 have c1 := (HR.out w1 (Below.refl _ _)).2.1
 obtain ⟨w2, hw2⟩ : ∃ w2, w1.alloc (.cells #[.int .u8 1, .int .u8 0, .int .u8 0, .int .u8 0, .int .u8 0, .int .u8 0, .int .u8 0, .int .u8 0] 5) = w2 := ⟨_, rfl⟩
 have hb2 : Below (S + 1) w1 w2 := by rw [<- hw2]; exact (Below.refl _ _).alloc (by omega) _
 have r2 : w2.heap[S + 1]? = some (.cells (u8s [1, 0, 0, 0, 0, 0, 0, 0]) 5 (0, 0)) := by rw [<- hw2]; exact al_at hs1
 have c22 := (HR.out w2 hb2).2.2
 have hs2 : S + 1 <= w2.heap.size := by rw [<- hw2]; simp; omega
 have HE : Box (∀ y, y.heap[S + 1]? = some (.cells (u8s (bytesOf (hd last) 8)) 5 (0, 0)) -> Below (S + 1) w1 y -> S + 1 <= y.heap.size -> Pu w1 y (S + 1) (.slice (some ⟨S + 1, 0, none⟩) 8 8) 8 (bytesOf (hd last) 8)) := ⟨fun y h1 h2 h3 => ⟨own_row8 (length_bytesOf _ _) (Nat.le_refl _) h1, h2, h3⟩⟩
 have key : ∀ w3 : World, Box (Pu w1 w3 (S + 1) (.slice (some ⟨S + 1, 0, none⟩) 8 8) 8 (bytesOf (hd last) 8)) -> True := fun _ _ => trivial
 clear hs hl r1
 cases last
 ·have HP : Box (Pu w1 w2 (S + 1) (.slice (some ⟨S + 1, 0, none⟩) 8 8) 8 (bytesOf (hd false) 8)) := ⟨HE.out w2 (by show _ = some (Obj.cells (u8s (bytesOf 1 8)) 5 (0, 0)); rw [b1]; exact r2) hb2 hs2⟩
  clear hb2 r2 hs2 hb1
  go_enter Tryd.func44, Tryd.ntmps44
  go_upto_region 1 with fail
  (try simp only [hw1, hS])
  go_upto_region 4 with fail
  (try simp only [hs1, hw2])
  clear hw1 hw2 hS hs1
  go_upto_region 6 with fail
  have c0 := (HR.out w2 HP.out.2.1).1
  go_upto_region 7 with (first
   | (go_at_call 64; refine (rput8 blk _ hn).mono ?_; rintro e x5 ⟨a5, c5, rfl, hB, hb⟩; have H5 : Box (Pu w1 x5 (S + 1) (.slice (some ⟨S + 1, 0, none⟩) 8 8) 8 (bytesOf (hd false) 8) /\ Bytes x5 a5 8 (bytesOf blk 8)) := ⟨HP.out.below hb, hB⟩; clear hB hb c0)
   | (at_builtin; refine wpList_app rfl (.tmp 15) (.tmp 19) rfl (S + 1) 8 8 c5 _ (bytesOf (hd false) 8) (bytesOf blk 8) _ x5 rfl rfl H5.out.1.1 H5.out.2 (by decide) (Below.refl _ _) H5.out.1.2.2 ?_; intro v6 x6 h6; have H6 : Box (Pu w1 x6 (S + 1) v6 (8 + 8) (bytesOf (hd false) 8 ++ bytesOf blk 8)) := ⟨H5.out.1.app h6⟩; clear h6))
  have H7 : Box (Pu w1 x6 (S + 1) v6 16 (bytesOf (hd false) 8 ++ bytesOf blk 8)) := ⟨H6.out⟩
  obtain ⟨a7, c7, rfl⟩ := own_form H7.out.1
  have HBy : Box (Bytes x6 a7 16 (bytesOf (hd false) 8 ++ bytesOf blk 8)) := ⟨own_bytes H7.out.1 (byt_app _ _ (bytesOf_bd _ _) (bytesOf_bd _ _))⟩
  have HCv : Box (∀ o : Oper, ∀ a : Act, o.op = .convert 63 9 (.tmp 21) -> a.eval (.tmp 21) = .slice a7 16 c7 -> (execOp a.eval o).run Tryd.prog x6 = .ok (.value (.string sh)) x6) := ⟨fun o a h1 h2 => by rw [<- HSH.out]; exact exec_conv (.tmp 21) h1 h2 HBy.out⟩
  have c6 := (HR.out x6 H7.out.2.1).2.1
  clear H6 H5 HP
  go_wp2_with (first | (refine atConv _ _ ?_; refine wpList_run rfl _ _ (HCv.out _ _ rfl rfl) ?_) | (refine atBin .add 9 ?_; refine wpList_run rfl _ _ (exec_cat _ _ _ rfl sh s rfl rfl HSM.out) ?_; rw [hcat]))
  go_ret2
  exact ⟨rfl, HB.out.1.trans (H7.out.2.1.mono (by have := HB.out.2; omega))⟩
 ·obtain ⟨w3, hw3⟩ : ∃ w3, w2.setCell ⟨S + 1, 1, none⟩ (.int .u8 1) = w3 := ⟨_, rfl⟩
  have r3 : w3.heap[S + 1]? = some (.cells (u8s [1, 1, 0, 0, 0, 0, 0, 0]) 5 (0, 0)) := by rw [<- hw3, heap_setCell_same w2 (S + 1) 1 _ 5 _ r2]; rfl
  have HP : Box (Pu w1 w3 (S + 1) (.slice (some ⟨S + 1, 0, none⟩) 8 8) 8 (bytesOf (hd true) 8)) := ⟨HE.out w3 (by show _ = some (Obj.cells (u8s (bytesOf 257 8)) 5 (0, 0)); rw [b257]; exact r3) (by rw [<- hw3]; exact below_set hb2 (Nat.le_refl _) _) (by rw [<- hw3]; simpa using hs2)⟩
  have hf : w2.frozen? ⟨S + 1, 1, none⟩ = false := frozen_of_row w2 (S + 1) 1 _ 5 r2
  have hc : w2.cell? ⟨S + 1, 1, none⟩ = some (.int .u8 0) := by rw [cell_of_row _ _ _ _ _ _ r2]; rfl
  clear hb2 r2 hs2 hb1 r3
  go_enter Tryd.func44, Tryd.ntmps44
  go_upto_region 1 with fail
  (try simp only [hw1, hS])
  go_upto_region 4 with fail
  (try simp only [hs1, hw2])
  clear hw1 hw2 hS hs1
  go_upto_region 6 with fail
  (try simp only [hw3])
  clear hw3 hf hc
  have c0 := (HR.out w3 HP.out.2.1).1
  go_upto_region 7 with (first
   | (go_at_call 64; refine (rput8 blk _ hn).mono ?_; rintro e x5 ⟨a5, c5, rfl, hB, hb⟩; have H5 : Box (Pu w1 x5 (S + 1) (.slice (some ⟨S + 1, 0, none⟩) 8 8) 8 (bytesOf (hd true) 8) /\ Bytes x5 a5 8 (bytesOf blk 8)) := ⟨HP.out.below hb, hB⟩; clear hB hb c0)
   | (at_builtin; refine wpList_app rfl (.tmp 15) (.tmp 19) rfl (S + 1) 8 8 c5 _ (bytesOf (hd true) 8) (bytesOf blk 8) _ x5 rfl rfl H5.out.1.1 H5.out.2 (by decide) (Below.refl _ _) H5.out.1.2.2 ?_; intro v6 x6 h6; have H6 : Box (Pu w1 x6 (S + 1) v6 (8 + 8) (bytesOf (hd true) 8 ++ bytesOf blk 8)) := ⟨H5.out.1.app h6⟩; clear h6))
  have H7 : Box (Pu w1 x6 (S + 1) v6 16 (bytesOf (hd true) 8 ++ bytesOf blk 8)) := ⟨H6.out⟩
  obtain ⟨a7, c7, rfl⟩ := own_form H7.out.1
  have HBy : Box (Bytes x6 a7 16 (bytesOf (hd true) 8 ++ bytesOf blk 8)) := ⟨own_bytes H7.out.1 (byt_app _ _ (bytesOf_bd _ _) (bytesOf_bd _ _))⟩
  have HCv : Box (∀ o : Oper, ∀ a : Act, o.op = .convert 63 9 (.tmp 21) -> a.eval (.tmp 21) = .slice a7 16 c7 -> (execOp a.eval o).run Tryd.prog x6 = .ok (.value (.string sh)) x6) := ⟨fun o a h1 h2 => by rw [<- HSH.out]; exact exec_conv (.tmp 21) h1 h2 HBy.out⟩
  have c6 := (HR.out x6 H7.out.2.1).2.1
  clear H6 H5 HP
  go_wp2_with (first | (refine atConv _ _ ?_; refine wpList_run rfl _ _ (HCv.out _ _ rfl rfl) ?_) | (refine atBin .add 9 ?_; refine wpList_run rfl _ _ (exec_cat _ _ _ rfl sh s rfl rfl HSM.out) ?_; rw [hcat]))
  go_ret2
  exact ⟨rfl, HB.out.1.trans (H7.out.2.1.mono (by have := HB.out.2; omega))⟩
end Go.Proofs.YthfobaeafapbnaaDoor
