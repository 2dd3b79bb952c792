/-
 What the law's images answers: blocks filled up with noughts, in new memory. And what follows it.
-/
import Derived.Test.YthfobaeafapbnaaDoorQ25
set_option linter.unusedVariables false
set_option maxRecDepth 100000
namespace Go.Proofs.YthfobaeafapbnaaDoor
open Go.RowKit Plain
theorem grown_alloc {w w' : World} {o : Obj} {row : Option Nat} (h : (w.alloc o).grownBy w' row) : w.grownBy w' row :=
 ⟨h.os, h.tape, h.output, Nat.le_trans (by simp) h.size, fun k hk hn => (h.block k (by simp; omega) hn).trans (Below.heap_alloc w o k hk)⟩
theorem wpList_appR {ops : Array Oper} {rest : List Oper} {o : Oper} {act : Act} {w : World} {Q : Exit -> Act -> World -> Prop} (t e : TypeId) (ht : Tryd.prog.underlying t = some (.slice e)) (sz bytes : Nat) (z : Value) (hi : (Tryd.prog.info? e).map (fun i => (i.zero, i.size, i.bytes)) = some (some z, sz, bytes)) (hzs : z.cells.size = sz) (hsz : 0 < sz) (hgd : o.guard = none) (s x : Operand)
  (ho : o.op = .call { callee := .builtin .append, args := #[s, x], argTypes := #[t, t] }) (B n : Nat) (v : Value) (xs cs : List Value) (wn : World) (hs : act.eval s = v) (hx : act.eval x = .slice (some ⟨wn.heap.size, 0, none⟩) 1 1) (hw : w = wn.alloc (.cells cs.toArray e)) (hown : wn.ownsRow B e sz v n xs) (hcs : cs.length = sz) (h1 : ∀ u ∈ cs, u.oneCell' = true) (hn : n <= 1000000) (hby : bytes <= 1000) (hb0 : 0 < bytes) (hB : B <= wn.heap.size)
  (h : ∀ v' w', w'.ownsRow B e sz v' (n + 1) (xs ++ cs) -> wn.grownBy w' v.ownBlock -> wpList Tryd.prog ops Q rest (act.put o.dst v') w') : wpList Tryd.prog ops Q (o :: rest) act w := by
 obtain ⟨i0, hi1, hz0, hz1, hz2⟩ := info_parts hi
 subst hw
 have hm : (n + 1) * bytes <= 140737488355328 := Nat.le_trans (Nat.mul_le_mul (show n + 1 <= 1000001 by omega) hby) (by decide)
 refine wpList_append_own _ hgd s x t ho B e i0 z sz bytes ht hi1 hz0 hz1 hz2 hzs hsz v n xs hs (own_to hown ((Below.refl _ _).alloc (Nat.le_refl _) _)) ⟨wn.heap.size, 0, none⟩ 1 1 cs hx (by rw [hcs, Nat.one_mul]) (news_new wn cs e) h1 (by unfold maxLen; omega) hm (by simp; omega) ?_
 intro v' w' h2 h3 _
 exact h v' w' h2 (grown_alloc h3)
theorem pad_zero (L : List Int) (n : Nat) : List.replicate n (Value.int .u8 0) = ((L.take 0 ++ List.replicate (n - 0) 0).map (Value.int .u8)) := by simp
theorem pad_step (L : List Int) (n k : Nat) (hk : k < n) (hL : k < L.length) : ((L.take k ++ List.replicate (n - k) 0).map (Value.int .u8)).toArray.setIfInBounds k (.int .u8 (L.getD k 0)) = ((L.take (k + 1) ++ List.replicate (n - (k + 1)) 0).map (Value.int .u8)).toArray := by
 obtain ⟨m, hm⟩ : ∃ m, n - k = m + 1 := ⟨n - k - 1, by omega⟩
 have hm' : n - (k + 1) = m := by omega
 have hl : (L.take k).length = k := by simp; omega
 rw [hm, hm', List.take_succ_eq_append_getElem hL, List.setIfInBounds_toArray, <- List.map_set]
 congr 2
 rw [List.set_append_right _ _ (by omega), hl, Nat.sub_self, List.replicate_succ, List.set_cons_zero, List.append_assoc]
 simp [List.getD, hL]
theorem pad_end (L : List Int) (n k : Nat) (h : k = L.length /\ k <= n ∨ k = n /\ k <= L.length) : L.take k ++ List.replicate (n - k) 0 = padTo L n := by
 unfold padTo
 rcases h with ⟨rfl, h⟩ | ⟨rfl, h⟩
 ·rw [List.take_of_length_le (Nat.le_refl _), List.take_of_length_le h]
 ·rw [show k - k = k - L.length by omega]
def szP (short : Bool) (i : Nat) : Nat := if short = true /\ i = 1 then 159 else 160
def imgP (short : Bool) (L : List (Int × List Int)) : List (Int × List Int) := L.mapIdx fun i x => (x.1, padTo x.2 (szP short i))
theorem len_imgP (short : Bool) (L : List (Int × List Int)) : (imgP short L).length = L.length := by simp [imgP]
theorem get_imgP (short : Bool) (L : List (Int × List Int)) (i : Nat) (h : i < L.length) : (imgP short L)[i]'(by rw [len_imgP]; exact h) = (L[i].1, padTo L[i].2 (szP short i)) := by simp [imgP]
theorem byt_padTo (L : List Int) (n : Nat) (h : Byt L) : Byt (padTo L n) := byt_app _ _ (byt_take L n h) (byt_zeros _)
structure Ig (w wr : World) (short : Bool) (M : List Im) (k : Nat) (v : Value) (X : List Im) : Prop where
 im : OImgs wr w.heap.size v X
 len : X.length = k
 pls : X.map pl = (imgP short (M.map pl)).take k
 bel : Below w.heap.size w wr
theorem Ig.step {w wr wk w' : World} {short : Bool} {M : List Im} {k : Nat} {v v' : Value} {X : List Im} (h : Ig w wr short M k v X) (hk : k < M.length) (nn : Nat) (hnn : nn = szP short k) (hb : Below wr.heap.size wr wk) (hr : wk.heap[wr.heap.size]? = some (.cells ((padTo M[k].bs nn).map (Value.int .u8)).toArray 5 (0, 0))) (hn6 : N64 M[k].blk) (hB : Byt M[k].bs)
  (ho : w'.ownsRow w.heap.size 65 2 v' (k + 1) ((X.map imc).flatten ++ [.int .u64 M[k].blk, .slice (some ⟨wr.heap.size, 0, none⟩) nn nn])) (hg : wk.grownBy w' v.ownBlock) : Ig w w' short M (k + 1) v' (X ++ [⟨M[k].blk, some ⟨wr.heap.size, 0, none⟩, nn, nn, padTo M[k].bs nn⟩]) := by
 have hrow : wk.ownsRow w.heap.size 65 2 v X.length (X.map imc).flatten := own_to h.im.row hb
 have hnew : OIm wk w.heap.size ⟨M[k].blk, some ⟨wr.heap.size, 0, none⟩, nn, nn, padTo M[k].bs nn⟩ := by
  refine ⟨(Out.of_row (w := w) (w' := wk) (length_padTo _ _) ?_ h.bel.size hr (below_to h.bel hb)).2.1, byt_padTo _ _ hB, hn6⟩
  unfold maxLen szP at *
  split at hnn <;> omega
 refine ⟨⟨?_, fun m hm => ?_⟩, by simp [h.len], ?_, ?_⟩
 ·have : (X ++ [(⟨M[k].blk, some ⟨wr.heap.size, 0, none⟩, nn, nn, padTo M[k].bs nn⟩ : Im)]).length = k + 1 := by simp [h.len]
  rw [this, List.map_append, List.flatten_append]
  simpa [imc] using ho
 ·rcases List.mem_append.1 hm with hm | hm
  ·exact ((h.im.byt m hm).to hb).grown hrow (by decide) hg
  ·simp only [List.mem_cons, List.not_mem_nil, or_false] at hm
   subst hm
   exact hnew.grown hrow (by decide) hg
 ·have hk2 : k < (imgP short (M.map pl)).length := by rw [len_imgP]; simpa using hk
  rw [List.map_append, h.pls, List.take_succ_eq_append_getElem hk2, get_imgP short (M.map pl) k (by simpa using hk)]
  simp [pl, hnn]
 ·exact (below_to h.bel hb).grown hg (below_to h.bel hb).size (fun j hj => (own_blk hrow j hj).1)
set_option maxRecDepth 20000 in
set_option maxHeartbeats 4000000 in
theorem images_any (a : Option Addr) (cap : Nat) (M : List Im) (short : Bool) (w : World) (h : Imgs w a M) (hl : M.length <= 1000) :
  Calls Tryd.prog 22 #[.slice a M.length cap, .bool short] w fun e w' => ∃ v X, e = .returned v /\ Ig w w' short M M.length v X := by
 obtain ⟨i0, hi, hz0, hz1, hz2⟩ := info_parts info5
 have HM : Box (∀ x, Below w.heap.size w x -> Imgs x a M) := ⟨fun x hx => h.below hx⟩
 clear h
 go_enter Tryd.func22, Tryd.ntmps22
 go_wp2
 go_loopw [5, 6] (fun v i wr => ∃ (k : Nat) (X : List Im), k <= M.length /\ i = .int .i64 (k : Int) /\ Box (Ig w wr short M k v X)) (fun _ i _ => M.length - (intOf i).toNat)
 case atStart => exact ⟨0, [], Nat.zero_le _, rfl, ⟨⟨World.ownsRow_nil _ _ _ _, fun m hm => by simp at hm⟩, rfl, by simp, Below.refl _ _⟩⟩
 case round =>
  obtain ⟨k, X, hk, rfl, HG⟩ := hrel
  obtain ⟨wo, rfl⟩ : ∃ wo, wo = wr := ⟨_, rfl⟩
  by_cases hlt : k < M.length
  ·have hlt1 : decide ((k : Int) < (M.length : Int)) = true := by simp; omega
   obtain ⟨b, o, hae, hbl, hr⟩ := (HM.out wo HG.out.bel).tb (by omega)
   subst hae
   have hby := (HM.out wo HG.out.bel).byt M[k] (List.getElem_mem hlt)
   have HML : Box (k < M.length) := ⟨hlt⟩
   obtain ⟨⟨blk, ba, bl, bc, bs⟩, hmm⟩ : ∃ m, M[k] = m := ⟨_, rfl⟩
   rw [hmm] at hby
   simp only at hby
   have hrk := hr k hlt
   rw [hmm] at hrk
   have HR : Box (∀ x, Below wo.heap.size wo x -> x.cell? ⟨b, o + k * 2, none⟩ = some (.int .u64 blk) /\ x.cell? ⟨b, o + k * 2 + 1, none⟩ = some (.slice ba bl bc) /\ Bytes x ba bl bs) := ⟨fun x hx => ⟨(hx.cell hbl).trans (hrk 0 _ rfl), (hx.cell hbl).trans (hrk 1 _ rfl), hby.1.below hx⟩⟩
   have HL : Box (bs.length = bl /\ bl <= maxLen /\ Byt bs /\ N64 blk) := ⟨hby.1.1, Nat.le_trans hby.2.2.1 hby.2.2.2, hby.1.2.1, hby.2.1⟩
   have hbl2 : bl <= 9223372036854775807 := by have := HL.out.2.1; unfold maxLen at this; omega
   have HST : Box (∀ (nn : Nat) (wr w' : World) (v' : Value), nn = szP short k -> Below wo.heap.size wo wr -> wr.heap[wo.heap.size]? = some (.cells ((padTo bs nn).map (Value.int .u8)).toArray 5 (0, 0)) -> w'.ownsRow w.heap.size 65 2 v' (k + 1) ((X.map imc).flatten ++ [.int .u64 blk, .slice (some ⟨wo.heap.size, 0, none⟩) nn nn]) -> wr.grownBy w' u5.ownBlock -> ∃ X', Ig w w' short M (k + 1) v' X') := ⟨fun nn wr w' v' h1 h2 h3 h4 h5 => by
    have := HG.out.step hlt nn h1 h2 (by rw [hmm]; exact h3) (by rw [hmm]; exact HL.out.2.2.2) (by rw [hmm]; exact HL.out.2.2.1) (by rw [hmm]; exact h4) h5
    exact ⟨_, this⟩⟩
   have hw4 : IntKind.i64.wrap ((k : Int) + 1) = ((k + 1 : Nat) : Int) := by rw [IntKind.wrap_i64]; omega
   have HB0 : Box (w.heap.size <= wo.heap.size /\ wo.ownsRow w.heap.size 65 2 u5 k (X.map imc).flatten) := ⟨HG.out.bel.size, by have := HG.out.im.row; rwa [HG.out.len] at this⟩
   clear hr hby hmm hrk hbl
   by_cases hsh : short = true /\ k = 1
   ·obtain ⟨hsh1, hsh2⟩ := hsh
    have HSZ : Box (159 = szP short k) := ⟨by simp [szP, hsh1, hsh2]⟩
    have hk1' : ((k : Int) == 1) = true := by simp [hsh2]
    clear hsh2
    subst hsh1
    go_upto_region 9 with (at_make; refine wpList_make_full _ rfl (.tmp 21) (.tmp 21) 63 rfl _ 5 i0 (.int .u8 0) 1 Tryd.underlying63 hi hz0 hz1 _ _ _ _ 159 rfl rfl rfl rfl (by rw [hz2]; omega) (by unfold maxLen; omega) (Nat.le_refl _) ?_; intro x1 hown hgrow; have HR1 : Box (x1.heap[wo.heap.size]? = some (.cells ((bs.take 0 ++ List.replicate (159 - 0) 0).map (Value.int .u8)).toArray 5 (0, 0)) /\ Below wo.heap.size wo x1) := ⟨pad_zero bs 159 ▸ made_row hown, (Below.refl _ _).grown hgrow (Nat.le_refl _) (by simp)⟩; clear hown hgrow)
    obtain ⟨g, hgs⟩ : ∃ g, wo.heap.size = g := ⟨_, rfl⟩
    simp only [hgs] at HR1 HST ⊢
    have HGS : Box (wo.heap.size = g) := ⟨hgs⟩
    clear hgs
    go_wp2
    go_loopw [9] (fun j wr => ∃ kk : Nat, kk <= bl /\ kk <= 159 /\ j = .int .i64 (kk : Int) /\ Box (wr.heap[g]? = some (.cells ((bs.take kk ++ List.replicate (159 - kk) 0).map (Value.int .u8)).toArray 5 (0, 0)) /\ Below g wo wr)) (fun j _ => 159 - (intOf j).toNat)
    case atStart => exact ⟨0, Nat.zero_le _, Nat.zero_le _, rfl, HR1⟩
    case round =>
     clear HR1
     obtain ⟨kk, hk1, hk2, rfl, HK⟩ := hrel
     have HRk := HR.out wr (HGS.out ▸ HK.out.2)
     by_cases hc1 : kk < bl
     ·by_cases hc2 : kk < 159
      ·have hd1 : decide ((kk : Int) < (bl : Int)) = true := by simp; omega
       have hd2 : decide ((kk : Int) < 159) = true := by simp; omega
       obtain ⟨c0, c1, hB⟩ := HRk
       obtain ⟨bb, oo, rfl, _, hcl⟩ := hB.2.2 (by omega)
       have hcb := hcl kk hc1
       have hf : wr.frozen? ⟨g, kk, none⟩ = false := frozen_of_row wr g kk _ 5 HK.out.1
       obtain ⟨vv, hcv⟩ := cell_row wr g kk _ 5 HK.out.1 (by simp; have := HL.out.1; omega)
       have HN : Box ((wr.setCell ⟨g, kk, none⟩ (.int .u8 (bs.getD kk 0))).heap[g]? = some (.cells ((bs.take (kk + 1) ++ List.replicate (159 - (kk + 1)) 0).map (Value.int .u8)).toArray 5 (0, 0)) /\ Below g wo (wr.setCell ⟨g, kk, none⟩ (.int .u8 (bs.getD kk 0)))) := ⟨by rw [heap_setCell_same wr g kk _ 5 _ HK.out.1, pad_step bs 159 kk hc2 (by rw [HL.out.1]; exact hc1)], below_set HK.out.2 (Nat.le_refl _) _⟩
       have hw5 : IntKind.i64.wrap ((kk : Int) + 1) = ((kk + 1 : Nat) : Int) := by rw [IntKind.wrap_i64]; omega
       generalize bs.getD kk 0 = z at hcb HN
       clear hcl hB
       go_wp2_with (refine atIdx 50 ?_; refine wpList_run rfl _ _ (exec_idxT 50 65 Tryd.underlying50 2 infoIm _ _ rfl b o M.length cap k rfl rfl HML.out) ?_)
       go_roundw
       case rel => exact ⟨kk + 1, by omega, by omega, by go_num, HN⟩
       case measure => simp [intOf]; omega
      ·have hkn : kk = 159 := by omega
       have hd1 : decide ((kk : Int) < (bl : Int)) = true := by simp; omega
       have hd2 : decide ((kk : Int) < 159) = false := by simp; omega
       have HE : Box (wr.heap[g]? = some (.cells ((padTo bs 159).map (Value.int .u8)).toArray 5 (0, 0)) /\ Below g wo wr) := ⟨by rw [<- pad_end bs 159 kk (.inr ⟨hkn, by rw [HL.out.1]; omega⟩)]; exact HK.out.1, HK.out.2⟩
       obtain ⟨c0, c1, hB⟩ := HRk
       clear hB HK hkn hk1 hk2
       have HOW : Box (wr.ownsRow w.heap.size 65 2 u5 k (X.map imc).flatten /\ w.heap.size <= wr.heap.size) := ⟨own_to HB0.out.2 (HGS.out ▸ HE.out.2), Nat.le_trans HB0.out.1 HE.out.2.size⟩
       have HL2 : Box (k <= 1000000) := ⟨by have := HML.out; omega⟩
       go_wp2_with (first
        | (refine atIdx 50 ?_; refine wpList_run rfl _ _ (exec_idxT 50 65 Tryd.underlying50 2 infoIm _ _ rfl b o M.length cap k rfl rfl HML.out) ?_)
        | (refine atBuild 65 ?_; refine wpList_run rfl _ _ (exec_built 65 [(0, .tmp 54), (1, .tmp 55)] rfl [(0, .int .u64 blk), (1, .slice (some ⟨g, 0, none⟩) 159 159)] rfl _ (built_Im _ _ _ _)) ?_)
        | (at_builtin; refine wpList_appR 50 65 Tryd.underlying50 2 32 _ infIm rfl (by decide) rfl (.tmp 49) (.tmp 57) rfl w.heap.size k u5 (X.map imc).flatten [.int .u64 blk, .slice (some ⟨g, 0, none⟩) 159 159] wr rfl rfl rfl HOW.out.1 rfl (by simp [Value.oneCell']) HL2.out (by decide) (by decide) HOW.out.2 ?_; intro v3 x3 hown hgr; have H3 : Box (∃ X', Ig w x3 _ M (k + 1) v3 X') := ⟨HST.out 159 wr x3 v3 HSZ.out HE.out.2 HE.out.1 hown hgr⟩; clear hown hgr))
       obtain ⟨X', hX'⟩ := H3.out
       exact ⟨⟨k + 1, X', HML.out, by go_num, ⟨hX'⟩⟩, by simp [intOf]; have := HML.out; omega⟩
     ·have hd1 : decide ((kk : Int) < (bl : Int)) = false := by simp; omega
      have HE : Box (wr.heap[g]? = some (.cells ((padTo bs 159).map (Value.int .u8)).toArray 5 (0, 0)) /\ Below g wo wr) := ⟨by rw [<- pad_end bs 159 kk (.inl ⟨by rw [HL.out.1]; omega, hk2⟩)]; exact HK.out.1, HK.out.2⟩
      obtain ⟨c0, c1, hB⟩ := HRk
      clear hB HK hk1 hk2
      have HOW : Box (wr.ownsRow w.heap.size 65 2 u5 k (X.map imc).flatten /\ w.heap.size <= wr.heap.size) := ⟨own_to HB0.out.2 (HGS.out ▸ HE.out.2), Nat.le_trans HB0.out.1 HE.out.2.size⟩
      have HL2 : Box (k <= 1000000) := ⟨by have := HML.out; omega⟩
      go_wp2_with (first
       | (refine atIdx 50 ?_; refine wpList_run rfl _ _ (exec_idxT 50 65 Tryd.underlying50 2 infoIm _ _ rfl b o M.length cap k rfl rfl HML.out) ?_)
       | (refine atBuild 65 ?_; refine wpList_run rfl _ _ (exec_built 65 [(0, .tmp 54), (1, .tmp 55)] rfl [(0, .int .u64 blk), (1, .slice (some ⟨g, 0, none⟩) 159 159)] rfl _ (built_Im _ _ _ _)) ?_)
       | (at_builtin; refine wpList_appR 50 65 Tryd.underlying50 2 32 _ infIm rfl (by decide) rfl (.tmp 49) (.tmp 57) rfl w.heap.size k u5 (X.map imc).flatten [.int .u64 blk, .slice (some ⟨g, 0, none⟩) 159 159] wr rfl rfl rfl HOW.out.1 rfl (by simp [Value.oneCell']) HL2.out (by decide) (by decide) HOW.out.2 ?_; intro v3 x3 hown hgr; have H3 : Box (∃ X', Ig w x3 _ M (k + 1) v3 X') := ⟨HST.out 159 wr x3 v3 HSZ.out HE.out.2 HE.out.1 hown hgr⟩; clear hown hgr))
      obtain ⟨X', hX'⟩ := H3.out
      exact ⟨⟨k + 1, X', HML.out, by go_num, ⟨hX'⟩⟩, by simp [intOf]; have := HML.out; omega⟩
   ·have HSZ : Box (160 = szP short k) := ⟨by simp [szP, hsh]⟩
    by_cases hsh1 : short = true
    ·have hk1' : ((k : Int) == 1) = false := by simp; intro e; exact hsh ⟨hsh1, by omega⟩
     subst hsh1
     clear hsh
     go_upto_region 9 with (at_make; refine wpList_make_full _ rfl (.tmp 21) (.tmp 21) 63 rfl _ 5 i0 (.int .u8 0) 1 Tryd.underlying63 hi hz0 hz1 _ _ _ _ 160 rfl rfl rfl rfl (by rw [hz2]; omega) (by unfold maxLen; omega) (Nat.le_refl _) ?_; intro x1 hown hgrow; have HR1 : Box (x1.heap[wo.heap.size]? = some (.cells ((bs.take 0 ++ List.replicate (160 - 0) 0).map (Value.int .u8)).toArray 5 (0, 0)) /\ Below wo.heap.size wo x1) := ⟨pad_zero bs 160 ▸ made_row hown, (Below.refl _ _).grown hgrow (Nat.le_refl _) (by simp)⟩; clear hown hgrow)
     obtain ⟨g, hgs⟩ : ∃ g, wo.heap.size = g := ⟨_, rfl⟩
     simp only [hgs] at HR1 HST ⊢
     have HGS : Box (wo.heap.size = g) := ⟨hgs⟩
     clear hgs
     go_wp2
     go_loopw [9] (fun j wr => ∃ kk : Nat, kk <= bl /\ kk <= 160 /\ j = .int .i64 (kk : Int) /\ Box (wr.heap[g]? = some (.cells ((bs.take kk ++ List.replicate (160 - kk) 0).map (Value.int .u8)).toArray 5 (0, 0)) /\ Below g wo wr)) (fun j _ => 160 - (intOf j).toNat)
     case atStart => exact ⟨0, Nat.zero_le _, Nat.zero_le _, rfl, HR1⟩
     case round =>
      clear HR1
      obtain ⟨kk, hk1, hk2, rfl, HK⟩ := hrel
      have HRk := HR.out wr (HGS.out ▸ HK.out.2)
      by_cases hc1 : kk < bl
      ·by_cases hc2 : kk < 160
       ·have hd1 : decide ((kk : Int) < (bl : Int)) = true := by simp; omega
        have hd2 : decide ((kk : Int) < 160) = true := by simp; omega
        obtain ⟨c0, c1, hB⟩ := HRk
        obtain ⟨bb, oo, rfl, _, hcl⟩ := hB.2.2 (by omega)
        have hcb := hcl kk hc1
        have hf : wr.frozen? ⟨g, kk, none⟩ = false := frozen_of_row wr g kk _ 5 HK.out.1
        obtain ⟨vv, hcv⟩ := cell_row wr g kk _ 5 HK.out.1 (by simp; have := HL.out.1; omega)
        have HN : Box ((wr.setCell ⟨g, kk, none⟩ (.int .u8 (bs.getD kk 0))).heap[g]? = some (.cells ((bs.take (kk + 1) ++ List.replicate (160 - (kk + 1)) 0).map (Value.int .u8)).toArray 5 (0, 0)) /\ Below g wo (wr.setCell ⟨g, kk, none⟩ (.int .u8 (bs.getD kk 0)))) := ⟨by rw [heap_setCell_same wr g kk _ 5 _ HK.out.1, pad_step bs 160 kk hc2 (by rw [HL.out.1]; exact hc1)], below_set HK.out.2 (Nat.le_refl _) _⟩
        have hw5 : IntKind.i64.wrap ((kk : Int) + 1) = ((kk + 1 : Nat) : Int) := by rw [IntKind.wrap_i64]; omega
        generalize bs.getD kk 0 = z at hcb HN
        clear hcl hB
        go_wp2_with (refine atIdx 50 ?_; refine wpList_run rfl _ _ (exec_idxT 50 65 Tryd.underlying50 2 infoIm _ _ rfl b o M.length cap k rfl rfl HML.out) ?_)
        go_roundw
        case rel => exact ⟨kk + 1, by omega, by omega, by go_num, HN⟩
        case measure => simp [intOf]; omega
       ·have hkn : kk = 160 := by omega
        have hd1 : decide ((kk : Int) < (bl : Int)) = true := by simp; omega
        have hd2 : decide ((kk : Int) < 160) = false := by simp; omega
        have HE : Box (wr.heap[g]? = some (.cells ((padTo bs 160).map (Value.int .u8)).toArray 5 (0, 0)) /\ Below g wo wr) := ⟨by rw [<- pad_end bs 160 kk (.inr ⟨hkn, by rw [HL.out.1]; omega⟩)]; exact HK.out.1, HK.out.2⟩
        obtain ⟨c0, c1, hB⟩ := HRk
        clear hB HK hkn hk1 hk2
        have HOW : Box (wr.ownsRow w.heap.size 65 2 u5 k (X.map imc).flatten /\ w.heap.size <= wr.heap.size) := ⟨own_to HB0.out.2 (HGS.out ▸ HE.out.2), Nat.le_trans HB0.out.1 HE.out.2.size⟩
        have HL2 : Box (k <= 1000000) := ⟨by have := HML.out; omega⟩
        go_wp2_with (first
         | (refine atIdx 50 ?_; refine wpList_run rfl _ _ (exec_idxT 50 65 Tryd.underlying50 2 infoIm _ _ rfl b o M.length cap k rfl rfl HML.out) ?_)
         | (refine atBuild 65 ?_; refine wpList_run rfl _ _ (exec_built 65 [(0, .tmp 54), (1, .tmp 55)] rfl [(0, .int .u64 blk), (1, .slice (some ⟨g, 0, none⟩) 160 160)] rfl _ (built_Im _ _ _ _)) ?_)
         | (at_builtin; refine wpList_appR 50 65 Tryd.underlying50 2 32 _ infIm rfl (by decide) rfl (.tmp 49) (.tmp 57) rfl w.heap.size k u5 (X.map imc).flatten [.int .u64 blk, .slice (some ⟨g, 0, none⟩) 160 160] wr rfl rfl rfl HOW.out.1 rfl (by simp [Value.oneCell']) HL2.out (by decide) (by decide) HOW.out.2 ?_; intro v3 x3 hown hgr; have H3 : Box (∃ X', Ig w x3 _ M (k + 1) v3 X') := ⟨HST.out 160 wr x3 v3 HSZ.out HE.out.2 HE.out.1 hown hgr⟩; clear hown hgr))
        obtain ⟨X', hX'⟩ := H3.out
        exact ⟨⟨k + 1, X', HML.out, by go_num, ⟨hX'⟩⟩, by simp [intOf]; have := HML.out; omega⟩
      ·have hd1 : decide ((kk : Int) < (bl : Int)) = false := by simp; omega
       have HE : Box (wr.heap[g]? = some (.cells ((padTo bs 160).map (Value.int .u8)).toArray 5 (0, 0)) /\ Below g wo wr) := ⟨by rw [<- pad_end bs 160 kk (.inl ⟨by rw [HL.out.1]; omega, hk2⟩)]; exact HK.out.1, HK.out.2⟩
       obtain ⟨c0, c1, hB⟩ := HRk
       clear hB HK hk1 hk2
       have HOW : Box (wr.ownsRow w.heap.size 65 2 u5 k (X.map imc).flatten /\ w.heap.size <= wr.heap.size) := ⟨own_to HB0.out.2 (HGS.out ▸ HE.out.2), Nat.le_trans HB0.out.1 HE.out.2.size⟩
       have HL2 : Box (k <= 1000000) := ⟨by have := HML.out; omega⟩
       go_wp2_with (first
        | (refine atIdx 50 ?_; refine wpList_run rfl _ _ (exec_idxT 50 65 Tryd.underlying50 2 infoIm _ _ rfl b o M.length cap k rfl rfl HML.out) ?_)
        | (refine atBuild 65 ?_; refine wpList_run rfl _ _ (exec_built 65 [(0, .tmp 54), (1, .tmp 55)] rfl [(0, .int .u64 blk), (1, .slice (some ⟨g, 0, none⟩) 160 160)] rfl _ (built_Im _ _ _ _)) ?_)
        | (at_builtin; refine wpList_appR 50 65 Tryd.underlying50 2 32 _ infIm rfl (by decide) rfl (.tmp 49) (.tmp 57) rfl w.heap.size k u5 (X.map imc).flatten [.int .u64 blk, .slice (some ⟨g, 0, none⟩) 160 160] wr rfl rfl rfl HOW.out.1 rfl (by simp [Value.oneCell']) HL2.out (by decide) (by decide) HOW.out.2 ?_; intro v3 x3 hown hgr; have H3 : Box (∃ X', Ig w x3 _ M (k + 1) v3 X') := ⟨HST.out 160 wr x3 v3 HSZ.out HE.out.2 HE.out.1 hown hgr⟩; clear hown hgr))
       obtain ⟨X', hX'⟩ := H3.out
       exact ⟨⟨k + 1, X', HML.out, by go_num, ⟨hX'⟩⟩, by simp [intOf]; have := HML.out; omega⟩
    ·have hsh2 : short = false := by simpa using hsh1
     subst hsh2
     clear hsh hsh1
     go_upto_region 9 with (at_make; refine wpList_make_full _ rfl (.tmp 21) (.tmp 21) 63 rfl _ 5 i0 (.int .u8 0) 1 Tryd.underlying63 hi hz0 hz1 _ _ _ _ 160 rfl rfl rfl rfl (by rw [hz2]; omega) (by unfold maxLen; omega) (Nat.le_refl _) ?_; intro x1 hown hgrow; have HR1 : Box (x1.heap[wo.heap.size]? = some (.cells ((bs.take 0 ++ List.replicate (160 - 0) 0).map (Value.int .u8)).toArray 5 (0, 0)) /\ Below wo.heap.size wo x1) := ⟨pad_zero bs 160 ▸ made_row hown, (Below.refl _ _).grown hgrow (Nat.le_refl _) (by simp)⟩; clear hown hgrow)
     obtain ⟨g, hgs⟩ : ∃ g, wo.heap.size = g := ⟨_, rfl⟩
     simp only [hgs] at HR1 HST ⊢
     have HGS : Box (wo.heap.size = g) := ⟨hgs⟩
     clear hgs
     go_wp2
     go_loopw [9] (fun j wr => ∃ kk : Nat, kk <= bl /\ kk <= 160 /\ j = .int .i64 (kk : Int) /\ Box (wr.heap[g]? = some (.cells ((bs.take kk ++ List.replicate (160 - kk) 0).map (Value.int .u8)).toArray 5 (0, 0)) /\ Below g wo wr)) (fun j _ => 160 - (intOf j).toNat)
     case atStart => exact ⟨0, Nat.zero_le _, Nat.zero_le _, rfl, HR1⟩
     case round =>
      clear HR1
      obtain ⟨kk, hk1, hk2, rfl, HK⟩ := hrel
      have HRk := HR.out wr (HGS.out ▸ HK.out.2)
      by_cases hc1 : kk < bl
      ·by_cases hc2 : kk < 160
       ·have hd1 : decide ((kk : Int) < (bl : Int)) = true := by simp; omega
        have hd2 : decide ((kk : Int) < 160) = true := by simp; omega
        obtain ⟨c0, c1, hB⟩ := HRk
        obtain ⟨bb, oo, rfl, _, hcl⟩ := hB.2.2 (by omega)
        have hcb := hcl kk hc1
        have hf : wr.frozen? ⟨g, kk, none⟩ = false := frozen_of_row wr g kk _ 5 HK.out.1
        obtain ⟨vv, hcv⟩ := cell_row wr g kk _ 5 HK.out.1 (by simp; have := HL.out.1; omega)
        have HN : Box ((wr.setCell ⟨g, kk, none⟩ (.int .u8 (bs.getD kk 0))).heap[g]? = some (.cells ((bs.take (kk + 1) ++ List.replicate (160 - (kk + 1)) 0).map (Value.int .u8)).toArray 5 (0, 0)) /\ Below g wo (wr.setCell ⟨g, kk, none⟩ (.int .u8 (bs.getD kk 0)))) := ⟨by rw [heap_setCell_same wr g kk _ 5 _ HK.out.1, pad_step bs 160 kk hc2 (by rw [HL.out.1]; exact hc1)], below_set HK.out.2 (Nat.le_refl _) _⟩
        have hw5 : IntKind.i64.wrap ((kk : Int) + 1) = ((kk + 1 : Nat) : Int) := by rw [IntKind.wrap_i64]; omega
        generalize bs.getD kk 0 = z at hcb HN
        clear hcl hB
        go_wp2_with (refine atIdx 50 ?_; refine wpList_run rfl _ _ (exec_idxT 50 65 Tryd.underlying50 2 infoIm _ _ rfl b o M.length cap k rfl rfl HML.out) ?_)
        go_roundw
        case rel => exact ⟨kk + 1, by omega, by omega, by go_num, HN⟩
        case measure => simp [intOf]; omega
       ·have hkn : kk = 160 := by omega
        have hd1 : decide ((kk : Int) < (bl : Int)) = true := by simp; omega
        have hd2 : decide ((kk : Int) < 160) = false := by simp; omega
        have HE : Box (wr.heap[g]? = some (.cells ((padTo bs 160).map (Value.int .u8)).toArray 5 (0, 0)) /\ Below g wo wr) := ⟨by rw [<- pad_end bs 160 kk (.inr ⟨hkn, by rw [HL.out.1]; omega⟩)]; exact HK.out.1, HK.out.2⟩
        obtain ⟨c0, c1, hB⟩ := HRk
        clear hB HK hkn hk1 hk2
        have HOW : Box (wr.ownsRow w.heap.size 65 2 u5 k (X.map imc).flatten /\ w.heap.size <= wr.heap.size) := ⟨own_to HB0.out.2 (HGS.out ▸ HE.out.2), Nat.le_trans HB0.out.1 HE.out.2.size⟩
        have HL2 : Box (k <= 1000000) := ⟨by have := HML.out; omega⟩
        go_wp2_with (first
         | (refine atIdx 50 ?_; refine wpList_run rfl _ _ (exec_idxT 50 65 Tryd.underlying50 2 infoIm _ _ rfl b o M.length cap k rfl rfl HML.out) ?_)
         | (refine atBuild 65 ?_; refine wpList_run rfl _ _ (exec_built 65 [(0, .tmp 54), (1, .tmp 55)] rfl [(0, .int .u64 blk), (1, .slice (some ⟨g, 0, none⟩) 160 160)] rfl _ (built_Im _ _ _ _)) ?_)
         | (at_builtin; refine wpList_appR 50 65 Tryd.underlying50 2 32 _ infIm rfl (by decide) rfl (.tmp 49) (.tmp 57) rfl w.heap.size k u5 (X.map imc).flatten [.int .u64 blk, .slice (some ⟨g, 0, none⟩) 160 160] wr rfl rfl rfl HOW.out.1 rfl (by simp [Value.oneCell']) HL2.out (by decide) (by decide) HOW.out.2 ?_; intro v3 x3 hown hgr; have H3 : Box (∃ X', Ig w x3 _ M (k + 1) v3 X') := ⟨HST.out 160 wr x3 v3 HSZ.out HE.out.2 HE.out.1 hown hgr⟩; clear hown hgr))
        obtain ⟨X', hX'⟩ := H3.out
        exact ⟨⟨k + 1, X', HML.out, by go_num, ⟨hX'⟩⟩, by simp [intOf]; have := HML.out; omega⟩
      ·have hd1 : decide ((kk : Int) < (bl : Int)) = false := by simp; omega
       have HE : Box (wr.heap[g]? = some (.cells ((padTo bs 160).map (Value.int .u8)).toArray 5 (0, 0)) /\ Below g wo wr) := ⟨by rw [<- pad_end bs 160 kk (.inl ⟨by rw [HL.out.1]; omega, hk2⟩)]; exact HK.out.1, HK.out.2⟩
       obtain ⟨c0, c1, hB⟩ := HRk
       clear hB HK hk1 hk2
       have HOW : Box (wr.ownsRow w.heap.size 65 2 u5 k (X.map imc).flatten /\ w.heap.size <= wr.heap.size) := ⟨own_to HB0.out.2 (HGS.out ▸ HE.out.2), Nat.le_trans HB0.out.1 HE.out.2.size⟩
       have HL2 : Box (k <= 1000000) := ⟨by have := HML.out; omega⟩
       go_wp2_with (first
        | (refine atIdx 50 ?_; refine wpList_run rfl _ _ (exec_idxT 50 65 Tryd.underlying50 2 infoIm _ _ rfl b o M.length cap k rfl rfl HML.out) ?_)
        | (refine atBuild 65 ?_; refine wpList_run rfl _ _ (exec_built 65 [(0, .tmp 54), (1, .tmp 55)] rfl [(0, .int .u64 blk), (1, .slice (some ⟨g, 0, none⟩) 160 160)] rfl _ (built_Im _ _ _ _)) ?_)
        | (at_builtin; refine wpList_appR 50 65 Tryd.underlying50 2 32 _ infIm rfl (by decide) rfl (.tmp 49) (.tmp 57) rfl w.heap.size k u5 (X.map imc).flatten [.int .u64 blk, .slice (some ⟨g, 0, none⟩) 160 160] wr rfl rfl rfl HOW.out.1 rfl (by simp [Value.oneCell']) HL2.out (by decide) (by decide) HOW.out.2 ?_; intro v3 x3 hown hgr; have H3 : Box (∃ X', Ig w x3 _ M (k + 1) v3 X') := ⟨HST.out 160 wr x3 v3 HSZ.out HE.out.2 HE.out.1 hown hgr⟩; clear hown hgr))
       obtain ⟨X', hX'⟩ := H3.out
       exact ⟨⟨k + 1, X', HML.out, by go_num, ⟨hX'⟩⟩, by simp [intOf]; have := HML.out; omega⟩
  ·obtain rfl : k = M.length := by omega
   have hlt1 : decide ((M.length : Int) < (M.length : Int)) = false := by simp
   go_wp2
   go_ret
   exact ⟨_, _, rfl, HG.out⟩
def z160 : List Int := List.replicate 160 0
theorem len_z160 : z160.length = 160 := List.length_replicate
theorem byt_z160 : Byt z160 := byt_zeros 160
end Go.Proofs.YthfobaeafapbnaaDoor
