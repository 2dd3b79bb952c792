/-
  What the law's images answers: blocks filled up with noughts, in new memory. And what follows it.
-/
import Derived.Test.YthbbijaikcmaeaaGreatDoorX39
import Derived.Test.YthbbijaikcmaeaaGreatDoorX38
namespace Go.Proofs.YthbbijaikcmaeaaGreatDoor.Rec.Plain
set_option maxRecDepth 100000
end Go.Proofs.YthbbijaikcmaeaaGreatDoor.Rec.Plain
namespace Go.Proofs.YthbbijaikcmaeaaGreatDoor.Rec
set_option maxRecDepth 100000
set_option linter.unusedVariables false
set_option maxRecDepth 100000
open Go.RowKit Go.Proofs.YthbbijaikcmaeaaGreatDoor.Plain Go.Proofs.YthbbijaikcmaeaaGreatDoor.Rec.Plain
theorem built_Im (b : Int) (a : Option Addr) (l c : Nat) : Tryz.prog.built 41 [(0, .int .u64 b), (1, .slice a l c)] = some #[.int .u64 b, .slice a l c] := by kernel_rfl
theorem grown_alloc {w w' : World} {o : Obj} {row : Option Nat} (h : (w.alloc o).grownBy w' row) : w.grownBy w' row :=
  ⟨h.os, h.tape, h.output, Nat.le_trans (by simp) h.size, fun k hk hn => (h.block k (by simp; omega) hn).trans (Below.heap_alloc w o k hk)⟩
theorem wpList_appR {ops : Array Oper} {rest : List Oper} {o : Oper} {act : Act} {w : World} {Q : Exit → Act → World → Prop} (t e : TypeId) (ht : Tryz.prog.underlying t = some (.slice e)) (sz bytes : Nat) (z : Value) (hi : (Tryz.prog.info? e).map (fun i => (i.zero, i.size, i.bytes)) = some (some z, sz, bytes)) (hzs : z.cells.size = sz) (hsz : 0 < sz) (hgd : o.guard = none) (s x : Operand)
    (ho : o.op = .call { callee := .builtin .append, args := #[s, x], argTypes := #[t, t] }) (B n : Nat) (v : Value) (xs cs : List Value) (wn : World) (hs : act.eval s = v) (hx : act.eval x = .slice (some ⟨wn.heap.size, 0, none⟩) 1 1) (hw : w = wn.alloc (.cells cs.toArray e)) (hown : wn.ownsRow B e sz v n xs) (hcs : cs.length = sz) (h1 : ∀ u ∈ cs, u.oneCell' = true) (hn : n ≤ 1000000) (hby : bytes ≤ 1000) (hb0 : 0 < bytes) (hB : B ≤ wn.heap.size)
    (h : ∀ v' w', w'.ownsRow B e sz v' (n + 1) (xs ++ cs) → wn.grownBy w' v.ownBlock → wpList Tryz.prog ops Q rest (act.put o.dst v') w') : wpList Tryz.prog ops Q (o :: rest) act w := by
  obtain ⟨i0, hi1, hz0, hz1, hz2⟩ := info_parts hi
  subst hw
  have hm : (n + 1) * bytes ≤ 140737488355328 := Nat.le_trans (Nat.mul_le_mul (show n + 1 ≤ 1000001 by omega) hby) (by decide)
  refine wpList_append_own _ hgd s x t ho B e i0 z sz bytes ht hi1 hz0 hz1 hz2 hzs hsz v n xs hs (own_to hown ((Below.refl _ _).alloc (Nat.le_refl _) _)) ⟨wn.heap.size, 0, none⟩ 1 1 cs hx (by rw [hcs, Nat.one_mul]) (news_new wn cs e) h1 (by unfold maxLen; omega) hm (by simp; omega) ?_
  intro v' w' h2 h3 _
  exact h v' w' h2 (grown_alloc h3)
theorem pad_zero (L : List Int) (n : Nat) : List.replicate n (Value.int .u8 0) = ((L.take 0 ++ List.replicate (n - 0) 0).map (Value.int .u8)) := by simp
theorem pad_step (L : List Int) (n k : Nat) (hk : k < n) (hL : k < L.length) : ((L.take k ++ List.replicate (n - k) 0).map (Value.int .u8)).toArray.setIfInBounds k (.int .u8 (L.getD k 0)) = ((L.take (k + 1) ++ List.replicate (n - (k + 1)) 0).map (Value.int .u8)).toArray := by
  obtain ⟨m, hm⟩ : ∃ m, n - k = m + 1 := ⟨n - k - 1, by omega⟩
  have hm' : n - (k + 1) = m := by omega
  have hl : (L.take k).length = k := by simp; omega
  rw [hm, hm', List.take_succ_eq_append_getElem hL, List.setIfInBounds_toArray, ← List.map_set]
  congr 2
  rw [List.set_append_right _ _ (by omega), hl, Nat.sub_self, List.replicate_succ, List.set_cons_zero, List.append_assoc]
  simp [List.getD, hL]
theorem pad_end (L : List Int) (n k : Nat) (h : k = L.length ∧ k ≤ n ∨ k = n ∧ k ≤ L.length) : L.take k ++ List.replicate (n - k) 0 = padTo L n := by
  unfold padTo
  rcases h with ⟨rfl, h⟩ | ⟨rfl, h⟩
  · rw [List.take_of_length_le (Nat.le_refl _), List.take_of_length_le h]
  · rw [show k - k = k - L.length by omega]
def szP (short : Bool) (i : Nat) : Nat := if short = true ∧ i = 1 then 159 else 160
def imgP (short : Bool) (L : List (Int × List Int)) : List (Int × List Int) := L.mapIdx fun i x => (x.1, padTo x.2 (szP short i))
theorem len_imgP (short : Bool) (L : List (Int × List Int)) : (imgP short L).length = L.length := by simp [imgP]
theorem get_imgP (short : Bool) (L : List (Int × List Int)) (i : Nat) (h : i < L.length) : (imgP short L)[i]'(by rw [len_imgP]; exact h) = (L[i].1, padTo L[i].2 (szP short i)) := by simp [imgP]
theorem byt_padTo (L : List Int) (n : Nat) (h : Byt L) : Byt (padTo L n) := byt_app _ _ (byt_take L n h) (byt_zeros _)
structure Ig (w wr : World) (short : Bool) (M : List Im) (k : Nat) (v : Value) (X : List Im) : Prop where
  im : OImgs wr w.heap.size v X
  len : X.length = k
  pls : X.map pl = (imgP short (M.map pl)).take k
  bel : Below w.heap.size w wr
theorem Ig.step {w wr wk w' : World} {short : Bool} {M : List Im} {k : Nat} {v v' : Value} {X : List Im} (h : Ig w wr short M k v X) (hk : k < M.length) (nn : Nat) (hnn : nn = szP short k) (hb : Below wr.heap.size wr wk) (hr : wk.heap[wr.heap.size]? = some (.cells ((padTo M[k].bs nn).map (Value.int .u8)).toArray 5 (0, 0))) (hn6 : N64 M[k].blk) (hB : Byt M[k].bs)
    (ho : w'.ownsRow w.heap.size 41 2 v' (k + 1) ((X.map imc).flatten ++ [.int .u64 M[k].blk, .slice (some ⟨wr.heap.size, 0, none⟩) nn nn])) (hg : wk.grownBy w' v.ownBlock) : Ig w w' short M (k + 1) v' (X ++ [⟨M[k].blk, some ⟨wr.heap.size, 0, none⟩, nn, nn, padTo M[k].bs nn⟩]) := by
  have hrow : wk.ownsRow w.heap.size 41 2 v X.length (X.map imc).flatten := own_to h.im.row hb
  have hnew : OIm wk w.heap.size ⟨M[k].blk, some ⟨wr.heap.size, 0, none⟩, nn, nn, padTo M[k].bs nn⟩ := by
    refine ⟨(Out.of_row (w := w) (w' := wk) (length_padTo _ _) ?_ h.bel.size hr (below_to h.bel hb)).2.1, byt_padTo _ _ hB, hn6⟩
    unfold maxLen szP at *
    split at hnn <;> omega
  refine ⟨⟨?_, fun m hm => ?_⟩, by simp [h.len], ?_, ?_⟩
  · have : (X ++ [(⟨M[k].blk, some ⟨wr.heap.size, 0, none⟩, nn, nn, padTo M[k].bs nn⟩ : Im)]).length = k + 1 := by simp [h.len]
    rw [this, List.map_append, List.flatten_append]
    simpa [imc] using ho
  · rcases List.mem_append.1 hm with hm | hm
    · exact ((h.im.byt m hm).to hb).grown hrow (by decide) hg
    · simp only [List.mem_cons, List.not_mem_nil, or_false] at hm
      subst hm
      exact hnew.grown hrow (by decide) hg
  · have hk2 : k < (imgP short (M.map pl)).length := by rw [len_imgP]; simpa using hk
    rw [List.map_append, h.pls, List.take_succ_eq_append_getElem hk2, get_imgP short (M.map pl) k (by simpa using hk)]
    simp [pl, hnn]
  · exact (below_to h.bel hb).grown hg (below_to h.bel hb).size (fun j hj => (own_blk hrow j hj).1)
set_option maxRecDepth 20000 in
set_option maxHeartbeats 4000000 in
theorem images_any (a : Option Addr) (cap : Nat) (M : List Im) (short : Bool) (w : World) (h : Imgs w a M) (hl : M.length ≤ 1000) :
    Calls Tryz.prog 10 #[.slice a M.length cap, .bool short] w fun e w' => ∃ v X, e = .returned v ∧ Ig w w' short M M.length v X := by
  obtain ⟨i0, hi, hz0, hz1, hz2⟩ := info_parts info5
  have HM : Box (∀ x, Below w.heap.size w x → Imgs x a M) := ⟨fun x hx => h.below hx⟩
  clear h
  go_enter Tryz.func10, Tryz.ntmps10
  go_wp2
  go_loopw [5, 6] (fun v i wr => ∃ (k : Nat) (X : List Im), k ≤ M.length ∧ i = .int .i64 (k : Int) ∧ Box (Ig w wr short M k v X)) (fun _ i _ => M.length - (intOf i).toNat)
  case atStart => exact ⟨0, [], Nat.zero_le _, rfl, ⟨⟨World.ownsRow_nil _ _ _ _, fun m hm => by simp at hm⟩, rfl, by simp, Below.refl _ _⟩⟩
  case round =>
    obtain ⟨k, X, hk, rfl, HG⟩ := hrel
    obtain ⟨wo, rfl⟩ : ∃ wo, wo = wr := ⟨_, rfl⟩
    by_cases hlt : k < M.length
    · have hlt1 : decide ((k : Int) < (M.length : Int)) = true := by simp; omega
      obtain ⟨b, o, hae, hbl, hr⟩ := (HM.out wo HG.out.bel).tb (by omega)
      subst hae
      have hby := (HM.out wo HG.out.bel).byt M[k] (List.getElem_mem hlt)
      have HML : Box (k < M.length) := ⟨hlt⟩
      obtain ⟨⟨blk, ba, bl, bc, bs⟩, hmm⟩ : ∃ m, M[k] = m := ⟨_, rfl⟩
      rw [hmm] at hby
      simp only at hby
      have hrk := hr k hlt
      rw [hmm] at hrk
      have HR : Box (∀ x, Below wo.heap.size wo x → x.cell? ⟨b, o + k * 2, none⟩ = some (.int .u64 blk) ∧ x.cell? ⟨b, o + k * 2 + 1, none⟩ = some (.slice ba bl bc) ∧ Bytes x ba bl bs) := ⟨fun x hx => ⟨(hx.cell hbl).trans (hrk 0 _ rfl), (hx.cell hbl).trans (hrk 1 _ rfl), hby.1.below hx⟩⟩
      have HL : Box (bs.length = bl ∧ bl ≤ maxLen ∧ Byt bs ∧ N64 blk) := ⟨hby.1.1, Nat.le_trans hby.2.2.1 hby.2.2.2, hby.1.2.1, hby.2.1⟩
      have hbl2 : bl ≤ 9223372036854775807 := by have := HL.out.2.1; unfold maxLen at this; omega
      have HST : Box (∀ (nn : Nat) (wr w' : World) (v' : Value), nn = szP short k → Below wo.heap.size wo wr → wr.heap[wo.heap.size]? = some (.cells ((padTo bs nn).map (Value.int .u8)).toArray 5 (0, 0)) → w'.ownsRow w.heap.size 41 2 v' (k + 1) ((X.map imc).flatten ++ [.int .u64 blk, .slice (some ⟨wo.heap.size, 0, none⟩) nn nn]) → wr.grownBy w' u5.ownBlock → ∃ X', Ig w w' short M (k + 1) v' X') := ⟨fun nn wr w' v' h1 h2 h3 h4 h5 => by
        have := HG.out.step hlt nn h1 h2 (by rw [hmm]; exact h3) (by rw [hmm]; exact HL.out.2.2.2) (by rw [hmm]; exact HL.out.2.2.1) (by rw [hmm]; exact h4) h5
        exact ⟨_, this⟩⟩
      have hw4 : IntKind.i64.wrap ((k : Int) + 1) = ((k + 1 : Nat) : Int) := by rw [IntKind.wrap_i64]; omega
      have HB0 : Box (w.heap.size ≤ wo.heap.size ∧ wo.ownsRow w.heap.size 41 2 u5 k (X.map imc).flatten) := ⟨HG.out.bel.size, by have := HG.out.im.row; rwa [HG.out.len] at this⟩
      clear hr hby hmm hrk hbl
      by_cases hsh : short = true ∧ k = 1
      · obtain ⟨hsh1, hsh2⟩ := hsh
        have HSZ : Box (159 = szP short k) := ⟨by simp [szP, hsh1, hsh2]⟩
        have hk1' : ((k : Int) == 1) = true := by simp [hsh2]
        clear hsh2
        subst hsh1
        go_upto_region 9 with (at_make; refine wpList_make_full _ rfl (.tmp 21) (.tmp 21) 38 rfl _ 5 i0 (.int .u8 0) 1 Tryz.underlying38 hi hz0 hz1 _ _ _ _ 159 rfl rfl rfl rfl (by rw [hz2]; omega) (by unfold maxLen; omega) (Nat.le_refl _) ?_; intro x1 hown hgrow; have HR1 : Box (x1.heap[wo.heap.size]? = some (.cells ((bs.take 0 ++ List.replicate (159 - 0) 0).map (Value.int .u8)).toArray 5 (0, 0)) ∧ Below wo.heap.size wo x1) := ⟨pad_zero bs 159 ▸ made_row hown, (Below.refl _ _).grown hgrow (Nat.le_refl _) (by simp)⟩; clear hown hgrow)
        obtain ⟨g, hgs⟩ : ∃ g, wo.heap.size = g := ⟨_, rfl⟩
        simp only [hgs] at HR1 HST ⊢
        have HGS : Box (wo.heap.size = g) := ⟨hgs⟩
        clear hgs
        go_wp2
        go_loopw [9] (fun j wr => ∃ kk : Nat, kk ≤ bl ∧ kk ≤ 159 ∧ j = .int .i64 (kk : Int) ∧ Box (wr.heap[g]? = some (.cells ((bs.take kk ++ List.replicate (159 - kk) 0).map (Value.int .u8)).toArray 5 (0, 0)) ∧ Below g wo wr)) (fun j _ => 159 - (intOf j).toNat)
        case atStart => exact ⟨0, Nat.zero_le _, Nat.zero_le _, rfl, HR1⟩
        case round =>
          clear HR1
          obtain ⟨kk, hk1, hk2, rfl, HK⟩ := hrel
          have HRk := HR.out wr (HGS.out ▸ HK.out.2)
          by_cases hc1 : kk < bl
          · by_cases hc2 : kk < 159
            · have hd1 : decide ((kk : Int) < (bl : Int)) = true := by simp; omega
              have hd2 : decide ((kk : Int) < 159) = true := by simp; omega
              obtain ⟨c0, c1, hB⟩ := HRk
              obtain ⟨bb, oo, rfl, _, hcl⟩ := hB.2.2 (by omega)
              have hcb := hcl kk hc1
              have hf : wr.frozen? ⟨g, kk, none⟩ = false := frozen_of_row wr g kk _ 5 HK.out.1
              obtain ⟨vv, hcv⟩ := cell_row wr g kk _ 5 HK.out.1 (by simp; have := HL.out.1; omega)
              have HN : Box ((wr.setCell ⟨g, kk, none⟩ (.int .u8 (bs.getD kk 0))).heap[g]? = some (.cells ((bs.take (kk + 1) ++ List.replicate (159 - (kk + 1)) 0).map (Value.int .u8)).toArray 5 (0, 0)) ∧ Below g wo (wr.setCell ⟨g, kk, none⟩ (.int .u8 (bs.getD kk 0)))) := ⟨by rw [heap_setCell_same wr g kk _ 5 _ HK.out.1, pad_step bs 159 kk hc2 (by rw [HL.out.1]; exact hc1)], below_set HK.out.2 (Nat.le_refl _) _⟩
              have hw5 : IntKind.i64.wrap ((kk : Int) + 1) = ((kk + 1 : Nat) : Int) := by rw [IntKind.wrap_i64]; omega
              generalize bs.getD kk 0 = z at hcb HN
              clear hcl hB
              go_wp2_with (refine atIdx 24 ?_; refine wpList_run rfl _ _ (exec_idxT 24 41 Tryz.underlying24 2 infoIm _ _ rfl b o M.length cap k rfl rfl HML.out) ?_)
              go_roundw
              case rel => exact ⟨kk + 1, by omega, by omega, by go_num, HN⟩
              case measure => simp [intOf]; omega
            · have hkn : kk = 159 := by omega
              have hd1 : decide ((kk : Int) < (bl : Int)) = true := by simp; omega
              have hd2 : decide ((kk : Int) < 159) = false := by simp; omega
              have HE : Box (wr.heap[g]? = some (.cells ((padTo bs 159).map (Value.int .u8)).toArray 5 (0, 0)) ∧ Below g wo wr) := ⟨by rw [← pad_end bs 159 kk (.inr ⟨hkn, by rw [HL.out.1]; omega⟩)]; exact HK.out.1, HK.out.2⟩
              obtain ⟨c0, c1, hB⟩ := HRk
              clear hB HK hkn hk1 hk2
              have HOW : Box (wr.ownsRow w.heap.size 41 2 u5 k (X.map imc).flatten ∧ w.heap.size ≤ wr.heap.size) := ⟨own_to HB0.out.2 (HGS.out ▸ HE.out.2), Nat.le_trans HB0.out.1 HE.out.2.size⟩
              have HL2 : Box (k ≤ 1000000) := ⟨by have := HML.out; omega⟩
              go_wp2_with (first
                | (refine atIdx 24 ?_; refine wpList_run rfl _ _ (exec_idxT 24 41 Tryz.underlying24 2 infoIm _ _ rfl b o M.length cap k rfl rfl HML.out) ?_)
                | (refine atBuild 41 ?_; refine wpList_run rfl _ _ (exec_built 41 [(0, .tmp 54), (1, .tmp 55)] rfl [(0, .int .u64 blk), (1, .slice (some ⟨g, 0, none⟩) 159 159)] rfl _ (built_Im _ _ _ _)) ?_)
                | (at_builtin; refine wpList_appR 24 41 Tryz.underlying24 2 32 _ infIm rfl (by decide) rfl (.tmp 49) (.tmp 57) rfl w.heap.size k u5 (X.map imc).flatten [.int .u64 blk, .slice (some ⟨g, 0, none⟩) 159 159] wr rfl rfl rfl HOW.out.1 rfl (by simp [Value.oneCell']) HL2.out (by decide) (by decide) HOW.out.2 ?_; intro v3 x3 hown hgr; have H3 : Box (∃ X', Ig w x3 _ M (k + 1) v3 X') := ⟨HST.out 159 wr x3 v3 HSZ.out HE.out.2 HE.out.1 hown hgr⟩; clear hown hgr))
              obtain ⟨X', hX'⟩ := H3.out
              exact ⟨⟨k + 1, X', HML.out, by go_num, ⟨hX'⟩⟩, by simp [intOf]; have := HML.out; omega⟩
          · have hd1 : decide ((kk : Int) < (bl : Int)) = false := by simp; omega
            have HE : Box (wr.heap[g]? = some (.cells ((padTo bs 159).map (Value.int .u8)).toArray 5 (0, 0)) ∧ Below g wo wr) := ⟨by rw [← pad_end bs 159 kk (.inl ⟨by rw [HL.out.1]; omega, hk2⟩)]; exact HK.out.1, HK.out.2⟩
            obtain ⟨c0, c1, hB⟩ := HRk
            clear hB HK hk1 hk2
            have HOW : Box (wr.ownsRow w.heap.size 41 2 u5 k (X.map imc).flatten ∧ w.heap.size ≤ wr.heap.size) := ⟨own_to HB0.out.2 (HGS.out ▸ HE.out.2), Nat.le_trans HB0.out.1 HE.out.2.size⟩
            have HL2 : Box (k ≤ 1000000) := ⟨by have := HML.out; omega⟩
            go_wp2_with (first
              | (refine atIdx 24 ?_; refine wpList_run rfl _ _ (exec_idxT 24 41 Tryz.underlying24 2 infoIm _ _ rfl b o M.length cap k rfl rfl HML.out) ?_)
              | (refine atBuild 41 ?_; refine wpList_run rfl _ _ (exec_built 41 [(0, .tmp 54), (1, .tmp 55)] rfl [(0, .int .u64 blk), (1, .slice (some ⟨g, 0, none⟩) 159 159)] rfl _ (built_Im _ _ _ _)) ?_)
              | (at_builtin; refine wpList_appR 24 41 Tryz.underlying24 2 32 _ infIm rfl (by decide) rfl (.tmp 49) (.tmp 57) rfl w.heap.size k u5 (X.map imc).flatten [.int .u64 blk, .slice (some ⟨g, 0, none⟩) 159 159] wr rfl rfl rfl HOW.out.1 rfl (by simp [Value.oneCell']) HL2.out (by decide) (by decide) HOW.out.2 ?_; intro v3 x3 hown hgr; have H3 : Box (∃ X', Ig w x3 _ M (k + 1) v3 X') := ⟨HST.out 159 wr x3 v3 HSZ.out HE.out.2 HE.out.1 hown hgr⟩; clear hown hgr))
            obtain ⟨X', hX'⟩ := H3.out
            exact ⟨⟨k + 1, X', HML.out, by go_num, ⟨hX'⟩⟩, by simp [intOf]; have := HML.out; omega⟩
      · have HSZ : Box (160 = szP short k) := ⟨by simp [szP, hsh]⟩
        by_cases hsh1 : short = true
        · have hk1' : ((k : Int) == 1) = false := by simp; intro e; exact hsh ⟨hsh1, by omega⟩
          subst hsh1
          clear hsh
          go_upto_region 9 with (at_make; refine wpList_make_full _ rfl (.tmp 21) (.tmp 21) 38 rfl _ 5 i0 (.int .u8 0) 1 Tryz.underlying38 hi hz0 hz1 _ _ _ _ 160 rfl rfl rfl rfl (by rw [hz2]; omega) (by unfold maxLen; omega) (Nat.le_refl _) ?_; intro x1 hown hgrow; have HR1 : Box (x1.heap[wo.heap.size]? = some (.cells ((bs.take 0 ++ List.replicate (160 - 0) 0).map (Value.int .u8)).toArray 5 (0, 0)) ∧ Below wo.heap.size wo x1) := ⟨pad_zero bs 160 ▸ made_row hown, (Below.refl _ _).grown hgrow (Nat.le_refl _) (by simp)⟩; clear hown hgrow)
          obtain ⟨g, hgs⟩ : ∃ g, wo.heap.size = g := ⟨_, rfl⟩
          simp only [hgs] at HR1 HST ⊢
          have HGS : Box (wo.heap.size = g) := ⟨hgs⟩
          clear hgs
          go_wp2
          go_loopw [9] (fun j wr => ∃ kk : Nat, kk ≤ bl ∧ kk ≤ 160 ∧ j = .int .i64 (kk : Int) ∧ Box (wr.heap[g]? = some (.cells ((bs.take kk ++ List.replicate (160 - kk) 0).map (Value.int .u8)).toArray 5 (0, 0)) ∧ Below g wo wr)) (fun j _ => 160 - (intOf j).toNat)
          case atStart => exact ⟨0, Nat.zero_le _, Nat.zero_le _, rfl, HR1⟩
          case round =>
            clear HR1
            obtain ⟨kk, hk1, hk2, rfl, HK⟩ := hrel
            have HRk := HR.out wr (HGS.out ▸ HK.out.2)
            by_cases hc1 : kk < bl
            · by_cases hc2 : kk < 160
              · have hd1 : decide ((kk : Int) < (bl : Int)) = true := by simp; omega
                have hd2 : decide ((kk : Int) < 160) = true := by simp; omega
                obtain ⟨c0, c1, hB⟩ := HRk
                obtain ⟨bb, oo, rfl, _, hcl⟩ := hB.2.2 (by omega)
                have hcb := hcl kk hc1
                have hf : wr.frozen? ⟨g, kk, none⟩ = false := frozen_of_row wr g kk _ 5 HK.out.1
                obtain ⟨vv, hcv⟩ := cell_row wr g kk _ 5 HK.out.1 (by simp; have := HL.out.1; omega)
                have HN : Box ((wr.setCell ⟨g, kk, none⟩ (.int .u8 (bs.getD kk 0))).heap[g]? = some (.cells ((bs.take (kk + 1) ++ List.replicate (160 - (kk + 1)) 0).map (Value.int .u8)).toArray 5 (0, 0)) ∧ Below g wo (wr.setCell ⟨g, kk, none⟩ (.int .u8 (bs.getD kk 0)))) := ⟨by rw [heap_setCell_same wr g kk _ 5 _ HK.out.1, pad_step bs 160 kk hc2 (by rw [HL.out.1]; exact hc1)], below_set HK.out.2 (Nat.le_refl _) _⟩
                have hw5 : IntKind.i64.wrap ((kk : Int) + 1) = ((kk + 1 : Nat) : Int) := by rw [IntKind.wrap_i64]; omega
                generalize bs.getD kk 0 = z at hcb HN
                clear hcl hB
                go_wp2_with (refine atIdx 24 ?_; refine wpList_run rfl _ _ (exec_idxT 24 41 Tryz.underlying24 2 infoIm _ _ rfl b o M.length cap k rfl rfl HML.out) ?_)
                go_roundw
                case rel => exact ⟨kk + 1, by omega, by omega, by go_num, HN⟩
                case measure => simp [intOf]; omega
              · have hkn : kk = 160 := by omega
                have hd1 : decide ((kk : Int) < (bl : Int)) = true := by simp; omega
                have hd2 : decide ((kk : Int) < 160) = false := by simp; omega
                have HE : Box (wr.heap[g]? = some (.cells ((padTo bs 160).map (Value.int .u8)).toArray 5 (0, 0)) ∧ Below g wo wr) := ⟨by rw [← pad_end bs 160 kk (.inr ⟨hkn, by rw [HL.out.1]; omega⟩)]; exact HK.out.1, HK.out.2⟩
                obtain ⟨c0, c1, hB⟩ := HRk
                clear hB HK hkn hk1 hk2
                have HOW : Box (wr.ownsRow w.heap.size 41 2 u5 k (X.map imc).flatten ∧ w.heap.size ≤ wr.heap.size) := ⟨own_to HB0.out.2 (HGS.out ▸ HE.out.2), Nat.le_trans HB0.out.1 HE.out.2.size⟩
                have HL2 : Box (k ≤ 1000000) := ⟨by have := HML.out; omega⟩
                go_wp2_with (first
                  | (refine atIdx 24 ?_; refine wpList_run rfl _ _ (exec_idxT 24 41 Tryz.underlying24 2 infoIm _ _ rfl b o M.length cap k rfl rfl HML.out) ?_)
                  | (refine atBuild 41 ?_; refine wpList_run rfl _ _ (exec_built 41 [(0, .tmp 54), (1, .tmp 55)] rfl [(0, .int .u64 blk), (1, .slice (some ⟨g, 0, none⟩) 160 160)] rfl _ (built_Im _ _ _ _)) ?_)
                  | (at_builtin; refine wpList_appR 24 41 Tryz.underlying24 2 32 _ infIm rfl (by decide) rfl (.tmp 49) (.tmp 57) rfl w.heap.size k u5 (X.map imc).flatten [.int .u64 blk, .slice (some ⟨g, 0, none⟩) 160 160] wr rfl rfl rfl HOW.out.1 rfl (by simp [Value.oneCell']) HL2.out (by decide) (by decide) HOW.out.2 ?_; intro v3 x3 hown hgr; have H3 : Box (∃ X', Ig w x3 _ M (k + 1) v3 X') := ⟨HST.out 160 wr x3 v3 HSZ.out HE.out.2 HE.out.1 hown hgr⟩; clear hown hgr))
                obtain ⟨X', hX'⟩ := H3.out
                exact ⟨⟨k + 1, X', HML.out, by go_num, ⟨hX'⟩⟩, by simp [intOf]; have := HML.out; omega⟩
            · have hd1 : decide ((kk : Int) < (bl : Int)) = false := by simp; omega
              have HE : Box (wr.heap[g]? = some (.cells ((padTo bs 160).map (Value.int .u8)).toArray 5 (0, 0)) ∧ Below g wo wr) := ⟨by rw [← pad_end bs 160 kk (.inl ⟨by rw [HL.out.1]; omega, hk2⟩)]; exact HK.out.1, HK.out.2⟩
              obtain ⟨c0, c1, hB⟩ := HRk
              clear hB HK hk1 hk2
              have HOW : Box (wr.ownsRow w.heap.size 41 2 u5 k (X.map imc).flatten ∧ w.heap.size ≤ wr.heap.size) := ⟨own_to HB0.out.2 (HGS.out ▸ HE.out.2), Nat.le_trans HB0.out.1 HE.out.2.size⟩
              have HL2 : Box (k ≤ 1000000) := ⟨by have := HML.out; omega⟩
              go_wp2_with (first
                | (refine atIdx 24 ?_; refine wpList_run rfl _ _ (exec_idxT 24 41 Tryz.underlying24 2 infoIm _ _ rfl b o M.length cap k rfl rfl HML.out) ?_)
                | (refine atBuild 41 ?_; refine wpList_run rfl _ _ (exec_built 41 [(0, .tmp 54), (1, .tmp 55)] rfl [(0, .int .u64 blk), (1, .slice (some ⟨g, 0, none⟩) 160 160)] rfl _ (built_Im _ _ _ _)) ?_)
                | (at_builtin; refine wpList_appR 24 41 Tryz.underlying24 2 32 _ infIm rfl (by decide) rfl (.tmp 49) (.tmp 57) rfl w.heap.size k u5 (X.map imc).flatten [.int .u64 blk, .slice (some ⟨g, 0, none⟩) 160 160] wr rfl rfl rfl HOW.out.1 rfl (by simp [Value.oneCell']) HL2.out (by decide) (by decide) HOW.out.2 ?_; intro v3 x3 hown hgr; have H3 : Box (∃ X', Ig w x3 _ M (k + 1) v3 X') := ⟨HST.out 160 wr x3 v3 HSZ.out HE.out.2 HE.out.1 hown hgr⟩; clear hown hgr))
              obtain ⟨X', hX'⟩ := H3.out
              exact ⟨⟨k + 1, X', HML.out, by go_num, ⟨hX'⟩⟩, by simp [intOf]; have := HML.out; omega⟩
        · have hsh2 : short = false := by simpa using hsh1
          subst hsh2
          clear hsh hsh1
          go_upto_region 9 with (at_make; refine wpList_make_full _ rfl (.tmp 21) (.tmp 21) 38 rfl _ 5 i0 (.int .u8 0) 1 Tryz.underlying38 hi hz0 hz1 _ _ _ _ 160 rfl rfl rfl rfl (by rw [hz2]; omega) (by unfold maxLen; omega) (Nat.le_refl _) ?_; intro x1 hown hgrow; have HR1 : Box (x1.heap[wo.heap.size]? = some (.cells ((bs.take 0 ++ List.replicate (160 - 0) 0).map (Value.int .u8)).toArray 5 (0, 0)) ∧ Below wo.heap.size wo x1) := ⟨pad_zero bs 160 ▸ made_row hown, (Below.refl _ _).grown hgrow (Nat.le_refl _) (by simp)⟩; clear hown hgrow)
          obtain ⟨g, hgs⟩ : ∃ g, wo.heap.size = g := ⟨_, rfl⟩
          simp only [hgs] at HR1 HST ⊢
          have HGS : Box (wo.heap.size = g) := ⟨hgs⟩
          clear hgs
          go_wp2
          go_loopw [9] (fun j wr => ∃ kk : Nat, kk ≤ bl ∧ kk ≤ 160 ∧ j = .int .i64 (kk : Int) ∧ Box (wr.heap[g]? = some (.cells ((bs.take kk ++ List.replicate (160 - kk) 0).map (Value.int .u8)).toArray 5 (0, 0)) ∧ Below g wo wr)) (fun j _ => 160 - (intOf j).toNat)
          case atStart => exact ⟨0, Nat.zero_le _, Nat.zero_le _, rfl, HR1⟩
          case round =>
            clear HR1
            obtain ⟨kk, hk1, hk2, rfl, HK⟩ := hrel
            have HRk := HR.out wr (HGS.out ▸ HK.out.2)
            by_cases hc1 : kk < bl
            · by_cases hc2 : kk < 160
              · have hd1 : decide ((kk : Int) < (bl : Int)) = true := by simp; omega
                have hd2 : decide ((kk : Int) < 160) = true := by simp; omega
                obtain ⟨c0, c1, hB⟩ := HRk
                obtain ⟨bb, oo, rfl, _, hcl⟩ := hB.2.2 (by omega)
                have hcb := hcl kk hc1
                have hf : wr.frozen? ⟨g, kk, none⟩ = false := frozen_of_row wr g kk _ 5 HK.out.1
                obtain ⟨vv, hcv⟩ := cell_row wr g kk _ 5 HK.out.1 (by simp; have := HL.out.1; omega)
                have HN : Box ((wr.setCell ⟨g, kk, none⟩ (.int .u8 (bs.getD kk 0))).heap[g]? = some (.cells ((bs.take (kk + 1) ++ List.replicate (160 - (kk + 1)) 0).map (Value.int .u8)).toArray 5 (0, 0)) ∧ Below g wo (wr.setCell ⟨g, kk, none⟩ (.int .u8 (bs.getD kk 0)))) := ⟨by rw [heap_setCell_same wr g kk _ 5 _ HK.out.1, pad_step bs 160 kk hc2 (by rw [HL.out.1]; exact hc1)], below_set HK.out.2 (Nat.le_refl _) _⟩
                have hw5 : IntKind.i64.wrap ((kk : Int) + 1) = ((kk + 1 : Nat) : Int) := by rw [IntKind.wrap_i64]; omega
                generalize bs.getD kk 0 = z at hcb HN
                clear hcl hB
                go_wp2_with (refine atIdx 24 ?_; refine wpList_run rfl _ _ (exec_idxT 24 41 Tryz.underlying24 2 infoIm _ _ rfl b o M.length cap k rfl rfl HML.out) ?_)
                go_roundw
                case rel => exact ⟨kk + 1, by omega, by omega, by go_num, HN⟩
                case measure => simp [intOf]; omega
              · have hkn : kk = 160 := by omega
                have hd1 : decide ((kk : Int) < (bl : Int)) = true := by simp; omega
                have hd2 : decide ((kk : Int) < 160) = false := by simp; omega
                have HE : Box (wr.heap[g]? = some (.cells ((padTo bs 160).map (Value.int .u8)).toArray 5 (0, 0)) ∧ Below g wo wr) := ⟨by rw [← pad_end bs 160 kk (.inr ⟨hkn, by rw [HL.out.1]; omega⟩)]; exact HK.out.1, HK.out.2⟩
                obtain ⟨c0, c1, hB⟩ := HRk
                clear hB HK hkn hk1 hk2
                have HOW : Box (wr.ownsRow w.heap.size 41 2 u5 k (X.map imc).flatten ∧ w.heap.size ≤ wr.heap.size) := ⟨own_to HB0.out.2 (HGS.out ▸ HE.out.2), Nat.le_trans HB0.out.1 HE.out.2.size⟩
                have HL2 : Box (k ≤ 1000000) := ⟨by have := HML.out; omega⟩
                go_wp2_with (first
                  | (refine atIdx 24 ?_; refine wpList_run rfl _ _ (exec_idxT 24 41 Tryz.underlying24 2 infoIm _ _ rfl b o M.length cap k rfl rfl HML.out) ?_)
                  | (refine atBuild 41 ?_; refine wpList_run rfl _ _ (exec_built 41 [(0, .tmp 54), (1, .tmp 55)] rfl [(0, .int .u64 blk), (1, .slice (some ⟨g, 0, none⟩) 160 160)] rfl _ (built_Im _ _ _ _)) ?_)
                  | (at_builtin; refine wpList_appR 24 41 Tryz.underlying24 2 32 _ infIm rfl (by decide) rfl (.tmp 49) (.tmp 57) rfl w.heap.size k u5 (X.map imc).flatten [.int .u64 blk, .slice (some ⟨g, 0, none⟩) 160 160] wr rfl rfl rfl HOW.out.1 rfl (by simp [Value.oneCell']) HL2.out (by decide) (by decide) HOW.out.2 ?_; intro v3 x3 hown hgr; have H3 : Box (∃ X', Ig w x3 _ M (k + 1) v3 X') := ⟨HST.out 160 wr x3 v3 HSZ.out HE.out.2 HE.out.1 hown hgr⟩; clear hown hgr))
                obtain ⟨X', hX'⟩ := H3.out
                exact ⟨⟨k + 1, X', HML.out, by go_num, ⟨hX'⟩⟩, by simp [intOf]; have := HML.out; omega⟩
            · have hd1 : decide ((kk : Int) < (bl : Int)) = false := by simp; omega
              have HE : Box (wr.heap[g]? = some (.cells ((padTo bs 160).map (Value.int .u8)).toArray 5 (0, 0)) ∧ Below g wo wr) := ⟨by rw [← pad_end bs 160 kk (.inl ⟨by rw [HL.out.1]; omega, hk2⟩)]; exact HK.out.1, HK.out.2⟩
              obtain ⟨c0, c1, hB⟩ := HRk
              clear hB HK hk1 hk2
              have HOW : Box (wr.ownsRow w.heap.size 41 2 u5 k (X.map imc).flatten ∧ w.heap.size ≤ wr.heap.size) := ⟨own_to HB0.out.2 (HGS.out ▸ HE.out.2), Nat.le_trans HB0.out.1 HE.out.2.size⟩
              have HL2 : Box (k ≤ 1000000) := ⟨by have := HML.out; omega⟩
              go_wp2_with (first
                | (refine atIdx 24 ?_; refine wpList_run rfl _ _ (exec_idxT 24 41 Tryz.underlying24 2 infoIm _ _ rfl b o M.length cap k rfl rfl HML.out) ?_)
                | (refine atBuild 41 ?_; refine wpList_run rfl _ _ (exec_built 41 [(0, .tmp 54), (1, .tmp 55)] rfl [(0, .int .u64 blk), (1, .slice (some ⟨g, 0, none⟩) 160 160)] rfl _ (built_Im _ _ _ _)) ?_)
                | (at_builtin; refine wpList_appR 24 41 Tryz.underlying24 2 32 _ infIm rfl (by decide) rfl (.tmp 49) (.tmp 57) rfl w.heap.size k u5 (X.map imc).flatten [.int .u64 blk, .slice (some ⟨g, 0, none⟩) 160 160] wr rfl rfl rfl HOW.out.1 rfl (by simp [Value.oneCell']) HL2.out (by decide) (by decide) HOW.out.2 ?_; intro v3 x3 hown hgr; have H3 : Box (∃ X', Ig w x3 _ M (k + 1) v3 X') := ⟨HST.out 160 wr x3 v3 HSZ.out HE.out.2 HE.out.1 hown hgr⟩; clear hown hgr))
              obtain ⟨X', hX'⟩ := H3.out
              exact ⟨⟨k + 1, X', HML.out, by go_num, ⟨hX'⟩⟩, by simp [intOf]; have := HML.out; omega⟩
    · obtain rfl : k = M.length := by omega
      have hlt1 : decide ((M.length : Int) < (M.length : Int)) = false := by simp
      go_wp2
      go_ret
      exact ⟨_, _, rfl, HG.out⟩
end Go.Proofs.YthbbijaikcmaeaaGreatDoor.Rec
namespace Go.Proofs.YthbbijaikcmaeaaGreatDoor
set_option maxRecDepth 100000
set_option linter.unusedVariables false
open Go.RowKit Go.Shelf Plain Go.Proofs.YthbbijaikcmaeaaGreatDoor.Shap.Plain
attribute [local go_sem] Oper.semAt_some
theorem exec_convG {o : Oper} {a : Act} {w' : World} {ad : Option Addr} {len cap : Nat} {L : List Int} (x : Operand) (ho : o.op = .convert 38 9 x) (hx : a.eval x = .slice ad len cap) (hB : Bytes w' ad len L) : (execOp a.eval o).run Tryz.prog w' = .ok (.value (.string (strOfNums L))) w' := Seal.exec_conv x ho hx hB
def toIm (m : Rec.Im) : Im := ⟨m.blk, m.ba, m.bl, m.bc, m.bs⟩
theorem imgs_to {w : World} {a : Option Addr} {X : List Rec.Im} (h : Rec.Imgs w a X) : Imgs w a (X.map toIm) := by
  refine ⟨fun hp => ?_, fun m hm => ?_⟩
  · obtain ⟨b, o, e, hlt, hr⟩ := h.tb (by simpa using hp)
    refine ⟨b, o, e, hlt, fun i hi => ?_⟩
    have h1 := hr i (by simpa using hi)
    rw [List.getElem_map]
    exact h1
  · obtain ⟨x, hx, rfl⟩ := List.mem_map.1 hm
    obtain ⟨h1, h2, h3, h4⟩ := h.byt x hx
    exact ⟨h1, h2.1, h2.2, Nat.le_trans h3 h4⟩
theorem LM_to (X : List Rec.Im) : LM (X.map toIm) = X.map Rec.pl := by simp [LM, toIm, Rec.pl]
theorem oim_blk {w : World} {B : Nat} {m : Rec.Im} (h : Rec.OIm w B m) : ∀ ad, m.ba = some ad → B ≤ ad.block ∧ ad.block < w.heap.size := by
  intro ad e
  have ho := h.own
  rw [e] at ho
  rcases ho.2 with ⟨h3, _⟩ | ⟨g', cap', cur, h3, hb, hg', _⟩
  · cases h3
  · simp only [Value.slice.injEq, Option.some.injEq, true_and] at h3
    obtain ⟨rfl, _⟩ := h3
    exact ⟨hb, (Array.getElem?_eq_some_iff.1 hg').1⟩
theorem oim_keep {w w' : World} {B : Nat} {m : Rec.Im} (h : Rec.OIm w B m) (hs : ∀ b, B ≤ b → b < w.heap.size → w'.heap[b]? = w.heap[b]?) : Rec.OIm w' B m := ⟨Rec.own_same h.own (fun k hk => hs k (Rec.own_blk h.own k hk).1 (h.own.lt k hk).2), h.byt, h.num⟩
theorem oimgs_keep {w w' : World} {B : Nat} {v : Value} {X : List Rec.Im} (h : Rec.OImgs w B v X) (hs : ∀ b, B ≤ b → b < w.heap.size → w'.heap[b]? = w.heap[b]?) : Rec.OImgs w' B v X := ⟨Rec.own_same h.row (fun k hk => hs k (Rec.own_blk h.row k hk).1 (h.row.lt k hk).2), fun m hm => oim_keep (h.byt m hm) hs⟩
end Go.Proofs.YthbbijaikcmaeaaGreatDoor
namespace Go.Proofs.YthbbijaikcmaeaaGreatDoor
set_option maxRecDepth 100000
set_option linter.unusedVariables false
open Go.RowKit Go.Shelf Plain Go.Proofs.YthbbijaikcmaeaaGreatDoor.Shap.Plain
attribute [local go_sem] Oper.semAt_some
theorem flat_set : ∀ (X : List Rec.Im) (i : Nat) (hi : i < X.length) (b : Int), ((X.map Rec.imc).flatten).set (i * 2) (.int .u64 b) = ((X.set i { X[i] with blk := b }).map Rec.imc).flatten
  | m :: X, 0, _, b => by simp [Rec.imc]
  | m :: X, i + 1, hi, b => by
    have ih := flat_set X i (by simpa using hi) b
    have e : (i + 1) * 2 = i * 2 + 1 + 1 := by omega
    simp only [List.map_cons, List.flatten_cons, Rec.imc, List.cons_append, List.nil_append, List.set_cons_succ, e, List.getElem_cons_succ]
    rw [ih]
theorem oimgs_set {w : World} {B g n cap : Nat} {X : List Rec.Im} (h : Rec.OImgs w B (.slice (some ⟨g, 0, none⟩) n cap) X) (i : Nat) (hi : i < X.length) (b : Int) (hb : N64 b) : Rec.OImgs (w.setCell ⟨g, i * 2, none⟩ (.int .u64 b)) B (.slice (some ⟨g, 0, none⟩) n cap) (X.set i { X[i] with blk := b }) := by
  have hne : ∀ m ∈ X, ∀ k, (Value.slice m.ba m.bl m.bc).ownBlock = some k → k ≠ g := fun m hm k hk e => Rec.own_ne h.row (h.byt m hm).own (by decide) g rfl (by rw [hk, e])
  have hkeep : ∀ m ∈ X, Rec.OIm (w.setCell ⟨g, i * 2, none⟩ (.int .u64 b)) B m := fun m hm => ⟨Rec.own_same (h.byt m hm).own (fun k hk => heap_setCell_other w ⟨g, i * 2, none⟩ k _ (hne m hm k hk)), (h.byt m hm).byt, (h.byt m hm).num⟩
  refine ⟨?_, fun m hm => ?_⟩
  · obtain ⟨h1, h2⟩ := h.row
    refine ⟨by rw [← flat_set X i hi b, List.length_set, h1]; simp, ?_⟩
    rcases h2 with ⟨e, _⟩ | ⟨g', cap', cur, e, hB, hg, hc1, hc2, hc3, hc4⟩
    · cases e
    · simp only [Value.slice.injEq, Option.some.injEq, Addr.mk.injEq, and_true] at e
      obtain ⟨rfl, e2, rfl⟩ := e
      refine .inr ⟨g, cap, cur.setIfInBounds (i * 2) (.int .u64 b), by rw [e2, List.length_set], hB, heap_setCell_same w g (i * 2) cur _ _ hg, by rw [List.length_set]; exact hc1, hc2, by rw [Array.size_setIfInBounds]; exact hc3, ?_⟩
      rw [← flat_set X i hi b, ← hc4, List.length_set, Array.toList_setIfInBounds, List.take_set]
  · rcases List.mem_or_eq_of_mem_set hm with hm | rfl
    · exact hkeep m hm
    · have := hkeep X[i] (List.getElem_mem hi)
      exact ⟨this.own, this.byt, hb⟩
theorem oimgs_cell {w : World} {B g n cap : Nat} {X : List Rec.Im} (h : Rec.OImgs w B (.slice (some ⟨g, 0, none⟩) n cap) X) (i : Nat) (hi : i < X.length) : w.cell? ⟨g, i * 2, none⟩ = some (.int .u64 X[i].blk) ∧ w.frozen? ⟨g, i * 2, none⟩ = false := by
  have e : n = X.length := by
    rcases h.row.2 with ⟨e, _⟩ | ⟨g', cap', cur, e, _⟩
    · cases e
    · simp only [Value.slice.injEq] at e; exact e.2.1
  subst e
  obtain ⟨b, o, hae, hbl, hr⟩ := h.imgs.tb (by omega)
  simp only [Option.some.injEq, Addr.mk.injEq, and_true] at hae
  obtain ⟨rfl, rfl⟩ := hae
  obtain ⟨_, cur, hg⟩ := Rec.own_blk h.row g rfl
  refine ⟨?_, frozen_of_row _ _ _ _ _ hg⟩
  have := hr i hi 0 _ rfl
  simpa using this
theorem oimgs_form {w : World} {B n cap : Nat} {a : Option Addr} {X : List Rec.Im} (h : Rec.OImgs w B (.slice a n cap) X) (hp : 0 < X.length) : ∃ g, a = some ⟨g, 0, none⟩ ∧ B ≤ g ∧ g < w.heap.size := by
  rcases h.row.2 with ⟨_, e⟩ | ⟨g', cap', cur, e, hB, hg, _⟩
  · omega
  · simp only [Value.slice.injEq] at e
    exact ⟨g', e.1, hB, (Array.getElem?_eq_some_iff.1 hg).1⟩
structure Md (q B : Nat) (x3 wr : World) (v : Value) (n k : Nat) (X : List Rec.Im) : Prop where
  im : Rec.OImgs wr B v X
  len : X.length = n
  bl : ∀ m ∈ X, m.bl = 160
  sm : ∀ i (h : i < X.length), i < k → X[i].blk < (q : Int)
  bel : Below B x3 wr
theorem Md.step {q B : Nat} {x3 wr : World} {g n k cap : Nat} {X : List Rec.Im} (h : Md q B x3 wr (.slice (some ⟨g, 0, none⟩) n cap) n k X) (hk : k < X.length) (hg : B ≤ g) (hq : 0 < q) (hq2 : q ≤ 1000) (z : Int) (hz : X[k].blk % (q : Int) = z) : Md q B x3 (wr.setCell ⟨g, k * 2, none⟩ (.int .u64 z)) (.slice (some ⟨g, 0, none⟩) n cap) n (k + 1) (X.set k { X[k] with blk := z }) := by
  have hz0 : 0 ≤ z := by rw [← hz]; exact Int.emod_nonneg _ (by omega)
  have hz1 : z < (q : Int) := by rw [← hz]; exact Int.emod_lt_of_pos _ (by omega)
  refine ⟨oimgs_set h.im k hk _ ⟨hz0, by omega⟩, by rw [List.length_set, h.len], fun m hm => ?_, fun i hi hik => ?_, below_set h.bel hg _⟩
  · rcases List.mem_or_eq_of_mem_set hm with hm | rfl
    · exact h.bl m hm
    · exact (h.bl X[k] (List.getElem_mem hk) : X[k].bl = 160)
  · rw [List.getElem_set]
    split
    · exact hz1
    · rename_i hne
      exact h.sm i (by simpa using hi) (by omega)
end Go.Proofs.YthbbijaikcmaeaaGreatDoor
