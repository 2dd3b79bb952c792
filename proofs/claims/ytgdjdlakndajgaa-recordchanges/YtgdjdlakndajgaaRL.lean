/-
  RecordLasts: a change ends with each last record, and none is left open; all images are told, in order.
-/
import Derived.Test.YtgdjdlakndajgaaRM
import Derived.Test.YtgdjdlakndajgaaRD
namespace Go.Proofs.Ytgdjdlakndajgaa
set_option linter.unusedVariables false
open Go.RowKit Plain

/-- What changes are, by the records: each one's records, one behind the other; then what is left open. -/
def ChI (s : List (List (Int × List Int)) × List (Int × List Int)) (pre : List ((Int × List Int) × Bool)) : Prop := pre = (s.1.map ofP).flatten ++ s.2.map (fun y => (y, false)) ∧ ∀ c ∈ s.1, c ≠ []
theorem chI_fold : ∀ (L : List ((Int × List Int) × Bool)) (s : List (List (Int × List Int)) × List (Int × List Int)) (pre : List ((Int × List Int) × Bool)), ChI s pre → ChI (L.foldl chSt s) (pre ++ L)
  | [], s, pre, h => by simpa using h
  | x :: L, s, pre, h => by
    have hx : ChI (chSt s x) (pre ++ [x]) := by
      obtain ⟨⟨b, l⟩, f⟩ := x
      unfold chSt
      cases f
      · refine ⟨?_, h.2⟩
        rw [h.1]
        simp
      · refine ⟨?_, fun c hc => ?_⟩
        · rw [h.1]
          simp [ofP_snoc]
        · simp at hc
          rcases hc with hc | rfl
          · exact h.2 c hc
          · simp
    have := chI_fold L _ _ hx
    simpa using this
theorem chS_split (L : List ((Int × List Int) × Bool)) : ChI (chS L) L := by
  have := chI_fold L ([], []) [] ⟨by simp, fun c hc => by simp at hc⟩
  simpa [chS] using this
theorem chS_closed (L : List ((Int × List Int) × Bool)) (h : ∀ h0 : 0 < L.length, (L[L.length - 1]'(by omega)).2 = true) : (chS L).2 = [] := by
  have hs := chS_split L
  generalize chS L = s at hs
  obtain ⟨o, nw⟩ := s
  cases hn : nw with
  | nil => rfl
  | cons a t =>
    exfalso
    have hne : nw ≠ [] := by simp [hn]
    have e1 := hs.1
    simp only at e1
    have e2 : nw = nw.dropLast ++ [nw.getLast hne] := (List.dropLast_concat_getLast hne).symm
    rw [e2] at e1
    simp only [List.map_append, List.map_cons, List.map_nil, ← List.append_assoc] at e1
    have h0 : 0 < L.length := by rw [e1]; simp; omega
    have h1 := h h0
    have h2 : L[L.length - 1]? = some (nw.getLast hne, false) := by
      rw [e1]
      simp
    rw [List.getElem?_eq_getElem (by omega)] at h2
    rw [Option.some.inj h2] at h1
    cases h1
theorem len_ofP (c : List (Int × List Int)) : (ofP c).length = c.length := by simp [ofP]
/-- How many ahead of a change. -/
def offs (o : List (List (Int × List Int))) (i : Nat) : Nat := ((o.take i).map List.length).sum
theorem offs_succ (o : List (List (Int × List Int))) (i : Nat) (h : i < o.length) : offs o (i + 1) = offs o i + o[i].length := by
  unfold offs
  rw [List.take_succ_eq_append_getElem h]
  simp only [List.map_append, List.map_cons, List.map_nil, List.sum_append, List.sum_cons, List.sum_nil]
  omega
theorem flat_offs (o : List (List (Int × List Int))) (i k : Nat) (h : i < o.length) (hk : k < o[i].length) : (o.map ofP).flatten[offs o i + k]? = some ((o[i])[k], decide (k + 1 = o[i].length)) := by
  have e : o = o.take i ++ o[i] :: o.drop (i + 1) := by rw [← List.drop_eq_getElem_cons h, List.take_append_drop]
  have e2 : (o.map ofP).flatten = ((o.take i).map ofP).flatten ++ (ofP o[i] ++ ((o.drop (i + 1)).map ofP).flatten) := by
    calc (o.map ofP).flatten = ((o.take i ++ o[i] :: o.drop (i + 1)).map ofP).flatten := by rw [← e]
      _ = _ := by simp only [List.map_append, List.map_cons, List.flatten_append, List.flatten_cons]
  have hl : ((o.take i).map ofP).flatten.length = offs o i := by
    unfold offs
    rw [List.length_flatten, List.map_map]
    congr 1
    apply List.map_congr_left
    intro c _
    exact len_ofP c
  rw [e2, List.getElem?_append_right (by omega), hl, show offs o i + k - offs o i = k by omega, List.getElem?_append_left (by rw [len_ofP]; exact hk)]
  simp [ofP, hk]
theorem offs_all (o : List (List (Int × List Int))) : offs o o.length = ((o.map ofP).flatten).length := by
  unfold offs
  rw [List.take_of_length_le (Nat.le_refl _), List.length_flatten, List.map_map]
  congr 1
  apply List.map_congr_left
  intro c _
  exact (len_ofP c).symm
/-- Records gathered so far. -/
structure RsK (w wr : World) (RR : List Rc) (k : Nat) (v : Value) : Prop where
  row : wr.ownsRow w.heap.size 30 3 v k ((RR.take k).map rcc).flatten
  bel : Below w.heap.size w wr
theorem RsK.step {w wr wd w' : World} {RR : List Rc} {k : Nat} {v v' : Value} (h : RsK w wr RR k v) (hk : k < RR.length) (hb : Below wr.heap.size wr wd) (ho : w'.ownsRow w.heap.size 30 3 v' (k + 1) (((RR.take k).map rcc).flatten ++ rcc RR[k])) (hg : wd.grownBy w' v.ownBlock) : RsK w w' RR (k + 1) v' := by
  refine ⟨?_, (below_to h.bel hb).grown hg (below_to h.bel hb).size (fun j hj => (own_blk (own_to h.row hb) j hj).1)⟩
  rw [List.take_succ_eq_append_getElem hk]
  simp only [List.map_append, List.map_cons, List.map_nil, List.flatten_append, List.flatten_cons, List.flatten_nil, List.append_nil]
  exact ho
def zipR (X : List Im) (K : List Bool) : List Rc := List.zipWith Rc.mk X K
theorem len_zipR (X : List Im) (K : List Bool) (h : X.length ≤ K.length) : (zipR X K).length = X.length := by simp [zipR]; omega
theorem get_zipR (X : List Im) (K : List Bool) (i : Nat) (h : i < (zipR X K).length) (h1 : i < X.length) : (zipR X K)[i] = ⟨X[i], K.getD i false⟩ := by
  have h2 : i < K.length := by simp [zipR] at h; omega
  simp [zipR, List.getD, h2]
theorem ig_len {w w' : World} {short : Bool} {M : List Im} {n : Nat} {v : Value} {X : List Im} (h : Ig w w' short M n v X) : ∃ a c, v = .slice a n c ∧ Imgs w' a X ∧ (∀ m ∈ X, OIm w' w.heap.size m) := by
  obtain ⟨a, c, rfl⟩ := own_form2 h.im.row
  have hi := h.im.imgs
  rw [h.len]
  exact ⟨a, c, rfl, hi, h.im.byt⟩
theorem ig_bl {w w' : World} {M : List Im} {v : Value} {X : List Im} (h : Ig w w' false M M.length v X) : ∀ m ∈ X, m.bl = 160 := by
  intro m hm
  obtain ⟨i, hi, rfl⟩ := List.getElem_of_mem hm
  have ho := (h.im.byt _ (List.getElem_mem hi)).own.1
  have hp := h.pls
  rw [List.take_of_length_le (by rw [len_imgP]; simp)] at hp
  have hM : i < M.length := by rw [← h.len]; exact hi
  have e : (X.map pl)[i]'(by simpa using hi) = (imgP false (M.map pl))[i]'(by rw [len_imgP]; simpa using hM) := by simp only [hp]
  rw [get_imgP false (M.map pl) i (by simpa using hM)] at e
  simp only [List.getElem_map, pl, Prod.mk.injEq] at e
  rw [List.length_map, e.2, length_padTo] at ho
  have : szP false i = 160 := by simp [szP]
  omega
theorem exec_neT2 {o : Oper} {ρ : Operand → Value} {w' : World} (x y : Operand) (ty : TypeId) (ho : o.op = .binOp .neq 9 x y ty) (s : ByteArray) (hx : ρ x = .string s) (hy : ρ y = .string s) :
    (execOp ρ o).run Try.prog w' = .ok (.value (.bool false)) w' := by
  unfold execOp
  simp [ho, hx, hy, eqGuard, binOp, Op.stringOp]
theorem exec_geF {o : Oper} {ρ : Operand → Value} {w' : World} (x y : Operand) (ty : TypeId) (ho : o.op = .binOp .geq 3 x y ty) (a b : Int) (h : ¬ b ≤ a) (hx : ρ x = .int .i64 a) (hy : ρ y = .int .i64 b) :
    (execOp ρ o).run Try.prog w' = .ok (.value (.bool false)) w' := by
  unfold execOp
  simp [ho, hx, hy, eqGuard, binOp, Op.intCmp]
  omega
theorem exec_subE {o : Oper} {ρ : Operand → Value} {w' : World} (x y : Operand) (ty : TypeId) (ho : o.op = .binOp .sub 3 x y ty) (a b v : Int) (e : a - b = v) (hv : -9223372036854775808 ≤ v ∧ v ≤ 9223372036854775807) (hx : ρ x = .int .i64 a) (hy : ρ y = .int .i64 b) :
    (execOp ρ o).run Try.prog w' = .ok (.value (.int .i64 v)) w' := by
  have hw : IntKind.i64.wrap (a - b) = v := by rw [IntKind.wrap_i64]; omega
  unfold execOp
  simp [ho, hx, hy, eqGuard, binOp, Op.intArith, hw]
theorem exec_neB {o : Oper} {ρ : Operand → Value} {w' : World} (x y : Operand) (ty : TypeId) (ho : o.op = .binOp .neq 4 x y ty) (b : Bool) (hx : ρ x = .bool b) (hy : ρ y = .bool b) :
    (execOp ρ o).run Try.prog w' = .ok (.value (.bool false)) w' := by
  unfold execOp
  simp only [ho, hx, hy, Sem.run_bind, eqGuard]
  cases b <;> rfl
theorem exec_eqB {o : Oper} {ρ : Operand → Value} {w' : World} (x y : Operand) (ty : TypeId) (ho : o.op = .binOp .eql 3 x y ty) (a b : Int) (bb : Bool) (h : (a == b) = bb) (hx : ρ x = .int .i64 a) (hy : ρ y = .int .i64 b) :
    (execOp ρ o).run Try.prog w' = .ok (.value (.bool bb)) w' := by
  have hu := Try.underlying3
  subst h
  unfold execOp
  simp [ho, hx, hy, eqGuard, binOp, Op.intCmp]
set_option maxRecDepth 20000 in
set_option maxHeartbeats 4000000 in
theorem recordLasts_core (a : Option Addr) (cap : Nat) (M : List Im) (ka : Option Addr) (kl kc : Nat) (K : List Bool) (w : World) (h : Imgs w a M) (hK : Bools w ka kl K) (hn20 : M.length ≤ 20) (hkl : M.length ≤ kl) (hkm : kl ≤ maxLen) :
    Calls Try.prog 7 #[.slice a M.length cap, .slice ka kl kc] w fun e w' => e = .returned (.bool true) ∧ Below w.heap.size w w' := by
  unfold maxLen at hkm
  obtain ⟨n, hn⟩ : ∃ n, M.length = n := ⟨_, rfl⟩
  rw [hn] at hn20 hkl ⊢
  have HM : Box (∀ x, Below w.heap.size w x → Imgs x a M ∧ Bools x ka kl K) := ⟨fun x hx => ⟨h.below hx, hK.below hx⟩⟩
  have HN : Box (M.length = n ∧ K.length = kl) := ⟨hn, hK.1⟩
  have hg1 : ¬ (20 : Int) < (n : Int) := by omega
  have hg2 : ¬ (kl : Int) < (n : Int) := by omega
  clear h hK hn
  go_enter Try.func7, Try.ntmps7
  go_upto_region 6 with (go_at_call 8; refine (awake_any _).mono ?_; rintro e x1 ⟨rfl, hb⟩; have H1 : Box (Below w.heap.size w x1) := ⟨hb⟩; clear hb)
  have HIM : Box (Calls Try.prog 9 #[.slice a n cap, .bool false] x1 fun e w' => ∃ v X, e = .returned v ∧ Ig x1 w' false M M.length v X) := ⟨by have := images_any a cap M false x1 (HM.out x1 H1.out).1 (by have := HN.out.1; omega); rw [HN.out.1] at this ⊢; exact this⟩
  go_upto_region 7 with (go_at_call 9; refine HIM.out.mono ?_; rintro e x2 ⟨v, X, rfl, hI⟩; obtain ⟨xa, xc, hv, hXi, hXo⟩ := ig_len hI; have H2 : Box (Below w.heap.size w x2 ∧ X.length = n ∧ Imgs x2 xa X ∧ (∀ m ∈ X, OIm x2 x1.heap.size m) ∧ (∀ m ∈ X, m.bl = 160)) := ⟨below_to H1.out hI.bel, by rw [hI.len]; exact HN.out.1, hXi, hXo, ig_bl hI⟩; rw [HN.out.1] at hv; subst hv; clear hI hXi hXo)
  clear HIM hg1 hg2
  obtain ⟨RR, hRR⟩ : ∃ RR, zipR X K = RR := ⟨_, rfl⟩
  have HRR : Box (RR.length = n ∧ ∀ i (h1 : i < RR.length) (h2 : i < X.length), RR[i] = ⟨X[i], K.getD i false⟩) := ⟨by rw [← hRR, len_zipR X K (by rw [H2.out.2.1, HN.out.2]; omega)]; exact H2.out.2.1, fun i h1 h2 => by subst hRR; exact get_zipR X K i h1 h2⟩
  obtain ⟨L, hL⟩ : ∃ L, RR.map rpl = L := ⟨_, rfl⟩
  have HL : Box (RR.map rpl = L ∧ L.length = n) := ⟨hL, by rw [← hL, List.length_map]; exact HRR.out.1⟩
  clear hRR hL
  go_wp2
  go_loopw [7, 8, 9] (fun v ct i wr => ∃ k : Nat, k ≤ n ∧ i = .int .i64 (k : Int) ∧ ct = .int .i64 (((chS (L.take k)).1.length : Nat) : Int) ∧ Box (RsK x2 wr RR k v ∧ (chS (L.take k)).1.length ≤ k)) (fun _ _ i _ => n - (intOf i).toNat)
  case atStart => exact ⟨0, Nat.zero_le _, rfl, rfl, ⟨⟨World.ownsRow_nil _ _ _ _, Below.refl _ _⟩, by simp [chS]⟩⟩
  case round =>
    obtain ⟨k, hk, rfl, rfl, HG⟩ := hrel
    by_cases hlt : k < n
    · have hlt1 : decide ((k : Int) < (n : Int)) = true := by simp; omega
      have hkX : k < X.length := by have := H2.out.2.1; omega
      obtain ⟨b, o, hae, hbl, hr⟩ := (H2.out.2.2.1).tb (by omega)
      subst hae
      obtain ⟨bk, ok, hke, hkb, hkc⟩ := (HM.out w (Below.refl _ _)).2.2 (by omega)
      subst hke
      have HLT : Box (k < n ∧ k < kl) := ⟨hlt, by omega⟩
      have hkR : k < RR.length := by have := HRR.out.1; omega
      have hkL : k < L.length := by have := HL.out.2; omega
      have HST : Box (∀ wd w' v', Below wr.heap.size wr wd → w'.ownsRow x2.heap.size 30 3 v' (k + 1) (((RR.take k).map rcc).flatten ++ rcc ⟨X[k], K.getD k false⟩) → wd.grownBy w' u7.ownBlock → RsK x2 w' RR (k + 1) v') := ⟨fun wd w' v' h1 h2 h3 => by
        have e := HRR.out.2 k hkR hkX
        rw [← e] at h2
        exact HG.out.1.step hkR h1 h2 h3⟩
      have hck := hkc k (by omega)
      have hcs := chS_take L k hkL
      have hLk : L[k].2 = K.getD k false := by
        have e := HRR.out.2 k hkR hkX
        have e2 : L[k] = rpl RR[k] := by
          have := HL.out.1
          subst this
          simp
        rw [e2, e]
        rfl
      have hr1 := hr k hkX
      obtain ⟨⟨blk, ba, bl, bc, bs⟩, hmm⟩ : ∃ m, X[k] = m := ⟨_, rfl⟩
      rw [hmm] at hr1 HST
      have hb2 := H2.out.1
      have HR : Box (∀ x, Below x2.heap.size x2 x → x.rangeAt b (o + k * 2) [.int .u64 blk, .slice ba bl bc] ∧ x.cell? ⟨bk, ok + k, none⟩ = some (.bool (K.getD k false))) := ⟨fun x hx => ⟨range_below hx hr1 hbl, ((below_to hb2 hx).cell hkb).trans hck⟩⟩
      obtain ⟨lst, hls⟩ : ∃ l, K.getD k false = l := ⟨_, rfl⟩
      rw [hls] at HR HST hLk
      have HOW : Box (∀ x, Below wr.heap.size wr x → x.ownsRow x2.heap.size 30 3 u7 k ((RR.take k).map rcc).flatten ∧ x2.heap.size ≤ x.heap.size ∧ Below x2.heap.size x2 x) := ⟨fun x hx => ⟨own_to HG.out.1.row hx, Nat.le_trans HG.out.1.bel.size hx.size, below_to HG.out.1.bel hx⟩⟩
      have HL2 : Box (k ≤ 1000000) := ⟨by omega⟩
      have HCT : Box ((chS (L.take (k + 1))).1.length = (chS (L.take k)).1.length + (if lst then 1 else 0) ∧ (chS (L.take k)).1.length ≤ k) := ⟨by
        rw [hcs]
        unfold chSt
        rw [hLk]
        cases lst <;> simp, HG.out.2⟩
      obtain ⟨ct, hct⟩ : ∃ c, (chS (L.take k)).1.length = c := ⟨_, rfl⟩
      rw [hct] at HCT ⊢
      have hw4 : IntKind.i64.wrap ((k : Int) + 1) = ((k + 1 : Nat) : Int) := by rw [IntKind.wrap_i64]; omega
      have hw5 : IntKind.i64.wrap ((ct : Int) + 1) = ((ct + 1 : Nat) : Int) := by rw [IntKind.wrap_i64]; have := HCT.out.2; omega
      have hctk : ct ≤ 20 := by have := HCT.out.2; omega
      clear hr hmm hr1 hcs hLk hck hkc hct hls hb2 hkR hkL hkX
      go_upto_region 12 with fail
      refine begin_keep (S := fun x => Below x2.heap.size x2 x) (by kernel_rfl) (fun wd hwd => ?_)
      have hbd : Below wr.heap.size wr wd := by rw [hwd]; exact (Below.refl _ _).drew
      have hS : Below x2.heap.size x2 wd := (HOW.out wd hbd).2.2
      clear hwd
      refine take_s (i := 0) (v := ?_) rfl (by kernel_rfl) (by kernel_rfl) (by kernel_rfl) (fun _ _ _ h => h) (by rfl) ?_ hS ?_
      rotate_left
      · intro w' hLat; clear hLat; go_simp <;> with_reducible rfl
      try simp only [Act.put, List.setIfInBounds_toArray, List.set_cons_zero, List.set_cons_succ, List.getElem_toArray, List.getElem_cons_zero]
      refine take_s (i := 1) (v := ?_) rfl (by kernel_rfl) (by kernel_rfl) (by kernel_rfl) (fun _ _ _ h => h) (by rfl) ?_ hS ?_
      rotate_left
      · intro w' hLat; clear hLat; go_simp <;> with_reducible rfl
      try simp only [Act.put, List.setIfInBounds_toArray, List.set_cons_zero, List.set_cons_succ, List.getElem_toArray, List.getElem_cons_zero, List.getElem_cons_succ]
      refine take_s (i := 2) (v := ?_) rfl (by kernel_rfl) (by kernel_rfl) (by kernel_rfl) (fun _ _ _ h => h) (by rfl) ?_ hS ?_
      rotate_left
      · intro w' hLat; clear hLat; go_simp <;> with_reducible rfl
      try simp only [Act.put, List.setIfInBounds_toArray, List.set_cons_zero, List.set_cons_succ, List.getElem_toArray, List.getElem_cons_zero, List.getElem_cons_succ]
      refine take_s (i := 3) (v := .pointer (some ⟨b, o + k * 2, none⟩)) rfl (by kernel_rfl) (by kernel_rfl) (by kernel_rfl) (fun _ _ _ h => h) (by rfl) (fun w' hLat => exec_idxT 27 25 Try.underlying27 2 infoIm _ _ rfl b o n xc k rfl rfl HLT.out.1) hS ?_
      try simp only [Act.put, List.setIfInBounds_toArray, List.set_cons_zero, List.set_cons_succ, List.getElem_toArray, List.getElem_cons_zero, List.getElem_cons_succ]
      refine take_s (i := 4) (v := .agg #[.int .u64 blk, .slice ba bl bc]) rfl (by kernel_rfl) (by kernel_rfl) (by kernel_rfl) (fun _ _ _ h => h) (by rfl) (fun w' hLat => exec_load_mid 25 _ _ rfl Try.underlying25 rfl b (o + k * 2) rfl [.int .u64 blk, .slice ba bl bc] infoIm (HR.out w' hLat).1) hS ?_
      try simp only [Act.put, List.setIfInBounds_toArray, List.set_cons_zero, List.set_cons_succ, List.getElem_toArray, List.getElem_cons_zero, List.getElem_cons_succ]
      refine take_s (i := 5) (v := ?_) rfl (by kernel_rfl) (by kernel_rfl) (by kernel_rfl) (fun _ _ _ h => h) (by rfl) ?_ hS ?_
      rotate_left
      · intro w' hLat; clear hLat; go_simp <;> with_reducible rfl
      try simp only [Act.put, List.setIfInBounds_toArray, List.set_cons_zero, List.set_cons_succ, List.getElem_toArray, List.getElem_cons_zero, List.getElem_cons_succ]
      refine take_s (i := 6) (v := ?_) rfl (by kernel_rfl) (by kernel_rfl) (by kernel_rfl) (fun _ _ _ h => h) (by rfl) ?_ hS ?_
      rotate_left
      · intro w' hLat; clear hLat; go_simp <;> with_reducible rfl
      try simp only [Act.put, List.setIfInBounds_toArray, List.set_cons_zero, List.set_cons_succ, List.getElem_toArray, List.getElem_cons_zero, List.getElem_cons_succ]
      refine take_s (i := 7) (v := .pointer (some ⟨bk, ok + k * 1, none⟩)) rfl (by kernel_rfl) (by kernel_rfl) (by kernel_rfl) (fun _ _ _ h => h) (by rfl) (fun w' hLat => exec_idxT 46 4 Try.underlying46 1 (by kernel_rfl) _ _ rfl bk ok kl kc k rfl rfl HLT.out.2) hS ?_
      try simp only [Act.put, List.setIfInBounds_toArray, List.set_cons_zero, List.set_cons_succ, List.getElem_toArray, List.getElem_cons_zero, List.getElem_cons_succ]
      refine take_s (i := 8) (v := .bool lst) rfl (by kernel_rfl) (by kernel_rfl) (by kernel_rfl) (fun _ _ _ h => h) (by rfl) (fun w' hLat => exec_load1 4 _ _ rfl Try.underlying4 rfl _ rfl _ (by rw [Nat.mul_one]; exact (HR.out w' hLat).2)) hS ?_
      try simp only [Act.put, List.setIfInBounds_toArray, List.set_cons_zero, List.set_cons_succ, List.getElem_toArray, List.getElem_cons_zero, List.getElem_cons_succ]
      refine take_s (i := 9) (v := .agg #[.int .u64 blk, .slice ba bl bc, .bool lst]) rfl (by kernel_rfl) (by kernel_rfl) (by kernel_rfl) (fun _ _ _ h => h) (by rfl) (fun w' hLat => exec_built 30 [(0, .tmp 40), (1, .tmp 44)] rfl [(0, .agg #[.int .u64 blk, .slice ba bl bc]), (1, .bool lst)] rfl _ (built_Rc _ _ _ _ _)) hS ?_
      try simp only [Act.put, List.setIfInBounds_toArray, List.set_cons_zero, List.set_cons_succ, List.getElem_toArray, List.getElem_cons_zero, List.getElem_cons_succ]
      refine one_keep (i := 10) (by kernel_rfl) ?_
      refine keep_step rfl (by rfl) ?_
      go_simp
      have hS2 := hS
      have hS : Below x2.heap.size x2 (wd.alloc (.cells #[.int .u64 blk, .slice ba bl bc, .bool lst] 30)) := hS2.alloc hS2.size _
      refine ⟨hS, ?_⟩
      try simp only [Act.put, List.setIfInBounds_toArray, List.set_cons_zero, List.set_cons_succ, List.getElem_toArray, List.getElem_cons_zero, List.getElem_cons_succ]
      refine one_keep (i := 11) (by kernel_rfl) ?_
      refine keep_step rfl (by rfl) ?_
      refine wp_appR 47 30 Try.underlying47 3 40 _ infRc rfl (by decide) (.tmp 36) (.tmp 46) rfl x2.heap.size k u7 ((RR.take k).map rcc).flatten [.int .u64 blk, .slice ba bl bc, .bool lst] wd rfl rfl rfl (HOW.out wd hbd).1 rfl (by simp [Value.oneCell']) HL2.out (by decide) (HOW.out wd hbd).2.1 ?_
      intro v5 x5 hown hgr
      have H5 : Box (RsK x2 x5 RR (k + 1) v5) := ⟨HST.out wd x5 v5 hbd hown hgr⟩
      have hS : Below x2.heap.size x2 x5 := H5.out.bel
      refine ⟨hS, ?_⟩
      try simp only [Act.put, List.setIfInBounds_toArray, List.set_cons_zero, List.set_cons_succ, List.getElem_toArray, List.getElem_cons_zero, List.getElem_cons_succ]
      refine take_s (i := 12) (v := ?_) rfl (by kernel_rfl) (by kernel_rfl) (by kernel_rfl) (fun _ _ _ h => h) (by rfl) ?_ hS ?_
      rotate_left
      · intro w' hLat; clear hLat; go_simp <;> with_reducible rfl
      try simp only [Act.put, List.setIfInBounds_toArray, List.set_cons_zero, List.set_cons_succ, List.getElem_toArray, List.getElem_cons_zero, List.getElem_cons_succ]
      refine wpAnyH_done (by kernel_rfl) ?_ _
      have hcb : x5.cell? ⟨bk, ok + k, none⟩ = some (.bool lst) := (HR.out x5 H5.out.bel).2
      have hkl2 : k < kl := HLT.out.2
      clear hS2 hS hown hgr hbd
      cases lst
      · have HC2 : Box ((chS (L.take (k + 1))).1.length = ct ∧ ct ≤ k + 1) := ⟨by simpa using HCT.out.1, by have := HCT.out.2; omega⟩
        go_wp2
        go_roundw
        case rel => exact ⟨k + 1, HLT.out.1, by go_num, by rw [HC2.out.1], ⟨H5.out, by rw [HC2.out.1]; exact HC2.out.2⟩⟩
        case measure => simp [intOf]; have := HLT.out.1; omega
      · have HC2 : Box ((chS (L.take (k + 1))).1.length = ct + 1 ∧ ct + 1 ≤ k + 1) := ⟨by simpa using HCT.out.1, by have := HCT.out.2; omega⟩
        go_wp2
        go_roundw
        case rel => exact ⟨k + 1, HLT.out.1, by go_num, by rw [HC2.out.1]; go_num, ⟨H5.out, by rw [HC2.out.1]; exact HC2.out.2⟩⟩
        case measure => simp [intOf]; have := HLT.out.1; omega
    · obtain rfl : k = n := by omega
      have hlt1 : decide ((k : Int) < (k : Int)) = false := by simp
      have HG1 : Box (wr.ownsRow x2.heap.size 30 3 u7 k (RR.map rcc).flatten ∧ Below x2.heap.size x2 wr) := ⟨by
        have := HG.out.1.row
        rwa [List.take_of_length_le (by rw [HRR.out.1]; exact Nat.le_refl _)] at this, HG.out.1.bel⟩
      obtain ⟨ra, rc, rfl⟩ := own_form2 HG1.out.1
      have HTK : Box (L.take k = L) := ⟨List.take_of_length_le (by rw [HL.out.2]; exact Nat.le_refl _)⟩
      rw [HTK.out]
      have HRE : Box (Recs wr ra RR) := ⟨⟨own_tb (fun _ => rfl) HG1.out.1 HRR.out.1, fun r hr => by
        obtain ⟨i, hi, rfl⟩ := List.getElem_of_mem hr
        have hiX : i < X.length := by rw [H2.out.2.1, ← HRR.out.1]; exact hi
        rw [HRR.out.2 i hi hiX]
        have ho := (H2.out.2.2.2.1 X[i] (List.getElem_mem hiX)).to HG1.out.2
        exact ⟨ho.byi.1, ho.num, by show X[i].bl < 1000000; rw [H2.out.2.2.2.2 _ (List.getElem_mem hiX)]; decide⟩⟩⟩
      obtain ⟨cn, hcn⟩ : ∃ c, (chS L).1.length = c := ⟨_, rfl⟩
      rw [hcn]
      have HCN : Box ((chS L).1.length = cn ∧ cn ≤ 20) := ⟨hcn, by have := HG.out.2; rw [HTK.out] at this; omega⟩
      clear hcn HG
      by_cases hbad : ∃ h0 : 0 < k, K.getD (k - 1) false = false
      · obtain ⟨h0, hk0⟩ := hbad
        obtain ⟨bk, ok, hke, hkb, hkc⟩ := (HM.out w (Below.refl _ _)).2.2 (by omega)
        subst hke
        have hck := hkc (k - 1) (by omega)
        rw [hk0] at hck
        have HCB : Box (Calls Try.prog 18 #[.slice ra k rc] wr fun e w' => e = .returned (.tuple #[.slice none 0 0, .int .i64 11]) ∧ wr = w') := ⟨by
          have h1 := HRR.out.1
          have h3 : 0 < RR.length := by omega
          have := changes_bad ra rc RR wr HRE.out (by omega) h3 (by
            rw [HRR.out.2 (RR.length - 1) (by omega) (by have := H2.out.2.1; omega)]
            show K.getD (RR.length - 1) false = false
            rw [h1]
            exact hk0)
          rw [h1] at this
          exact this⟩
        have hcw : wr.cell? ⟨bk, ok + (k - 1), none⟩ = some (.bool false) := ((below_to H2.out.1 HG1.out.2).cell hkb).trans hck
        have hgt : (0 : Int) < (k : Int) := by omega
        have hsub : ((k : Int) - 1) = ((k - 1 : Nat) : Int) := by omega
        have HLn : Box (k - 1 < kl) := ⟨by omega⟩
        clear hkc hck hk0
        go_wp2_with (first
          | (go_at_call 18; refine HCB.out.mono ?_; rintro e x6 ⟨rfl, rfl⟩)
          | (refine atIdx 46 ?_; (try rw [hsub]); refine wpList_runG (by rfl) _ _ (exec_idxT 46 4 Try.underlying46 1 (by kernel_rfl) _ _ rfl bk ok kl kc (k - 1) rfl rfl HLn.out) ?_; rw [Nat.mul_one]))
        go_ret
        exact ⟨rfl, below_to H2.out.1 HG1.out.2⟩
      · have HLA : Box (∀ h0 : 0 < k, K.getD (k - 1) false = true) := ⟨fun h0 => by
          cases e : K.getD (k - 1) false
          · exact absurd ⟨h0, e⟩ hbad
          · rfl⟩
        have HCO : Box (Calls Try.prog 18 #[.slice ra k rc] wr fun e w' => ∃ v C, e = .returned (.tuple #[v, .int .i64 0]) ∧ Chs w' wr.heap.size v C ∧ C.map (fun c => c.M.map pl) = (chS L).1 ∧ Below wr.heap.size wr w') := ⟨by
          have h1 := HRR.out.1
          have := changes_ok ra rc RR wr HRE.out (by omega) (fun h3 => by
            rw [HRR.out.2 (RR.length - 1) (by omega) (by have := H2.out.2.1; omega)]
            show K.getD (RR.length - 1) false = true
            rw [h1]
            exact HLA.out (by omega))
          rw [h1, HL.out.1] at this
          exact this⟩
        have HCL : Box ((chS L).2 = []) := ⟨chS_closed L (fun h0 => by
          have h1 := HL.out.2
          have hR : L.length - 1 < RR.length := by rw [HRR.out.1]; omega
          have hX : L.length - 1 < X.length := by rw [H2.out.2.1]; omega
          have e2 : L[L.length - 1] = rpl RR[L.length - 1] := by
            have e := HL.out.1
            have e3 : L[L.length - 1]? = (RR.map rpl)[L.length - 1]? := by rw [e]
            rw [List.getElem?_eq_getElem (by omega), List.getElem?_eq_getElem (by simpa using hR)] at e3
            simpa using e3
          rw [e2, HRR.out.2 _ hR hX]
          show K.getD (L.length - 1) false = true
          rw [h1]
          exact HLA.out (by omega))⟩
        clear hbad
        by_cases h0 : 0 < k
        · obtain ⟨bk, ok, hke, hkb, hkc⟩ := (HM.out w (Below.refl _ _)).2.2 (by omega)
          subst hke
          have hck := hkc (k - 1) (by omega)
          rw [HLA.out h0] at hck
          have hcw : ∀ x, Below wr.heap.size wr x → x.cell? ⟨bk, ok + (k - 1), none⟩ = some (.bool true) := fun x hx => ((below_to H2.out.1 (below_to HG1.out.2 hx)).cell hkb).trans hck
          have HCW : Box _ := ⟨hcw⟩
          have hgt : (0 : Int) < (k : Int) := by omega
          have hsub : ((k : Int) - 1) = ((k - 1 : Nat) : Int) := by omega
          have HLn : Box (k - 1 < kl) := ⟨by omega⟩
          clear hkc hck hcw
          go_upto_region 16 with (go_at_call 18; refine HCO.out.mono ?_; rintro e x6 ⟨cv, C, rfl, hC1, hC2, hC3⟩; obtain ⟨cva, cvc, rfl⟩ := own_form2 hC1.row; have H6 : Box (Chs x6 wr.heap.size (.slice cva C.length cvc) C ∧ C.map (fun c => c.M.map pl) = (chS L).1 ∧ Below wr.heap.size wr x6 ∧ C.length = cn) := ⟨hC1, hC2, hC3, by have := congrArg List.length hC2; rw [List.length_map] at this; rw [this]; exact HCN.out.1⟩; clear hC1 hC2 hC3)
          have hcb := HCW.out x6 H6.out.2.2.1
          go_upto_region 18 with (refine atIdx 46 ?_; (try rw [hsub]); refine wpList_runG (by rfl) _ _ (exec_idxT 46 4 Try.underlying46 1 (by kernel_rfl) _ _ rfl bk ok kl kc (k - 1) rfl rfl HLn.out) ?_; rw [Nat.mul_one])
          clear hcb hsub HLn HCW hgt
          obtain ⟨cl, hcl⟩ : ∃ cl, C.length = cl := ⟨_, rfl⟩
          have HCL2 : Box (C.length = cl ∧ cl = cn) := ⟨hcl, by have := H6.out.2.2.2; omega⟩
          rw [hcl]
          obtain rfl : cl = cn := HCL2.out.2
          clear hcl
          have HX6 : Box (∀ x, Below x6.heap.size x6 x → Below x2.heap.size x2 x ∧ Below w.heap.size w x) := ⟨fun x hx => by
            have h1 := below_to HG1.out.2 (below_to H6.out.2.2.1 hx)
            exact ⟨h1, below_to H2.out.1 h1⟩⟩
          go_upto_region 22 with fail
          go_wp2
          go_loopw [12, 13] (fun at' i wq => ∃ ii : Nat, ii ≤ cl ∧ i = .int .i64 (ii : Int) ∧ at' = .int .i64 ((offs (chS L).1 ii : Nat) : Int) ∧ Box (Below x6.heap.size x6 wq)) (fun _ i _ => cl - (intOf i).toNat)
          case atStart => exact ⟨0, Nat.zero_le _, rfl, rfl, ⟨Below.refl _ _⟩⟩
          case round =>
            obtain ⟨ii, hii, rfl, rfl, HQ⟩ := hrel
            have HO : Box ((chS L).1.length = cl ∧ L = ((chS L).1.map ofP).flatten) := ⟨HCN.out.1, by have := (chS_split L).1; rw [HCL.out] at this; simpa using this⟩
            by_cases hi : ii < cl
            · have hi1 : decide ((ii : Int) < (cl : Int)) = true := by simp; omega
              have hiC : ii < C.length := by have := HCL2.out.1; omega
              have hio : ii < (chS L).1.length := by have := HO.out.1; omega
              obtain ⟨gc, oc, hce, hcb, hcr⟩ := (own_tb (fun _ => rfl) H6.out.1.row rfl : Tb x6 cva 1 slc C) (by omega)
              subst hce
              have hcr1 := hcr ii hiC
              obtain ⟨h1, ⟨g, p, hgB, hgl, hca, hcM⟩, hcO⟩ := H6.out.1.im C[ii] (List.getElem_mem hiC)
              have hoC : (chS L).1[ii] = C[ii].M.map pl := by
                have e := H6.out.2.1
                have e2 : (C.map (fun c => c.M.map pl))[ii]? = (chS L).1[ii]? := by rw [e]
                rw [List.getElem?_eq_getElem (by simpa using hiC), List.getElem?_eq_getElem hio] at e2
                simpa using (Option.some.inj e2).symm
              obtain ⟨⟨ca, cll, ccc, cM⟩, hCC⟩ : ∃ c, C[ii] = c := ⟨_, rfl⟩
              rw [hCC] at h1 hca hcM hcO hcr1 hoC
              simp only at h1 hca hcM hcO hoC
              subst hca
              have HII : Box (ii < cl) := ⟨hi⟩
              have HCR : Box (∀ x, Below x6.heap.size x6 x → x.cell? ⟨gc, oc + ii, none⟩ = some (.slice (some ⟨g, p, none⟩) cll ccc)) := ⟨fun x hx => by
                have := hcr1 0 _ rfl
                rw [Nat.mul_one, Nat.add_zero] at this
                exact (hx.cell hcb).trans this⟩
              have HCM : Box (cM.length = cll ∧ (∀ x, Below x6.heap.size x6 x → ∀ i (h : i < cM.length), x.rangeAt g (p + i * 2) (imc cM[i])) ∧ (∀ x, Below x6.heap.size x6 x → ∀ m ∈ cM, Bytes x m.ba m.bl m.bs)) := ⟨h1, fun x hx i h => range_below hx (hcM i h) hgl, fun x hx m hm => ((hcO m hm).to hx).byi.1⟩
              have HOI : Box (offs (chS L).1 (ii + 1) = offs (chS L).1 ii + cll) := ⟨by rw [offs_succ _ _ hio, hoC, List.length_map, h1]⟩
              have HPO : Box (∀ kk (hk : kk < cM.length), ∃ (pt : Nat) (hp : pt < X.length), pt = offs (chS L).1 ii + kk ∧ pt < k ∧ pl X[pt] = pl cM[kk] ∧ K.getD pt false = decide (kk + 1 = cll)) := ⟨fun kk hk => by
                have hk2 : kk < ((chS L).1[ii]).length := by rw [hoC]; simpa using hk
                have e := flat_offs (chS L).1 ii kk hio hk2
                rw [← HO.out.2] at e
                obtain ⟨pp, hpp0⟩ : ∃ pp, offs (chS L).1 ii + kk = pp := ⟨_, rfl⟩
                rw [hpp0] at e
                have hlt := (List.getElem?_eq_some_iff.1 e).1
                have hR : pp < RR.length := by rw [HRR.out.1]; have := HL.out.2; omega
                have hX : pp < X.length := by rw [H2.out.2.1]; have := HL.out.2; omega
                have e3 : L[pp]? = (RR.map rpl)[pp]? := by rw [HL.out.1]
                rw [List.getElem?_map, List.getElem?_eq_getElem hR, HRR.out.2 pp hR hX] at e3
                rw [e3] at e
                simp only [Option.map_some, Option.some.injEq, rpl, Prod.mk.injEq] at e
                refine ⟨pp, hX, hpp0.symm, by have := HL.out.2; omega, ?_, ?_⟩
                · rw [e.1]
                  simp [hoC]
                · rw [e.2, hoC, List.length_map, h1]⟩
              clear hcr hcr1 h1 hcM hcO hoC hCC hiC hio
              obtain ⟨ofs, hofs⟩ : ∃ f, offs (chS L).1 ii = f := ⟨_, rfl⟩
              rw [hofs] at HOI HPO ⊢
              have hofl : ofs ≤ 20 ∨ True := .inr trivial
              clear hofs hofl
              obtain ⟨wo, hwo⟩ : ∃ wo, wo = wr := ⟨_, rfl⟩
              go_wp2
              (try rw [hi1])
              go_loopw [12, 14] (fun at' kq wq => ∃ kk : Nat, kk ≤ cll ∧ kq = .int .i64 (kk : Int) ∧ at' = .int .i64 ((ofs + kk : Nat) : Int) ∧ Box (Below x6.heap.size x6 wq)) (fun _ kq _ => cll - (intOf kq).toNat)
              case atStart => exact ⟨0, Nat.zero_le _, rfl, rfl, HQ⟩
              case round =>
                clear hwo
                obtain ⟨kk, hkk, rfl, rfl, HW⟩ := hrel
                have hcc := HCR.out wr HW.out
                by_cases hk3 : kk < cll
                · have hk31 : decide ((kk : Int) < (cll : Int)) = true := by simp; omega
                  have hkM : kk < cM.length := by rw [HCM.out.1]; exact hk3
                  obtain ⟨pt, hpX, hpe, hpk, hpp, hpb⟩ := HPO.out kk hkM
                  obtain ⟨bX, oX, hXe, hXb, hXr⟩ := (H2.out.2.2.1).tb (by omega)
                  subst hXe
                  obtain ⟨bk, ok, hke, hkb, hkc⟩ := (HM.out w (Below.refl _ _)).2.2 (by omega)
                  first | subst hke | (simp only [Option.some.injEq, Addr.mk.injEq, and_true] at hke; rw [hke.1, hke.2]; clear hke)
                  have hxr := hXr pt hpX
                  have hxb := (H2.out.2.2.2.1 X[pt] (List.getElem_mem hpX))
                  have hcr := fun x hx => HCM.out.2.1 x hx kk hkM
                  have hcb2 := fun x hx => HCM.out.2.2 x hx cM[kk] (List.getElem_mem hkM)
                  have hkp := hkc pt (by omega)
                  rw [hpb] at hkp
                  obtain ⟨⟨blk, xa1, xl1, xc1, bs⟩, hx9⟩ : ∃ m, X[pt] = m := ⟨_, rfl⟩
                  obtain ⟨⟨blk2, ca1, cl1, cc1, bs2⟩, hc9⟩ : ∃ m, cM[kk] = m := ⟨_, rfl⟩
                  rw [hx9, hc9] at hpp
                  rw [hx9] at hxr hxb
                  simp only [hc9] at hcr hcb2
                  simp only [pl, Prod.mk.injEq] at hpp
                  obtain ⟨rfl, rfl⟩ := hpp
                  obtain ⟨s, HSS⟩ : ∃ s, Box (strOfNums bs = s) := ⟨_, ⟨rfl⟩⟩
                  obtain ⟨bb, hbb⟩ : ∃ b, decide (kk + 1 = cll) = b := ⟨_, rfl⟩
                  rw [hbb] at hkp
                  have HBB : Box ((((kk : Int) == (cll : Int) - 1)) = bb) := ⟨by rw [← hbb, Bool.eq_iff_iff]; simp; omega⟩
                  have HF : Box (∀ x, Below wr.heap.size wr x → x.cell? ⟨gc, oc + ii, none⟩ = some (.slice (some ⟨g, p, none⟩) cll ccc) ∧ x.cell? ⟨g, p + kk * 2, none⟩ = some (.int .u64 blk) ∧ (x.cell? ⟨g, p + kk * 2 + 1, none⟩ = some (.slice ca1 cl1 cc1) ∧ Bytes x ca1 cl1 bs) ∧ x.cell? ⟨bX, oX + pt * 2, none⟩ = some (.int .u64 blk) ∧ (x.cell? ⟨bX, oX + pt * 2 + 1, none⟩ = some (.slice xa1 xl1 xc1) ∧ Bytes x xa1 xl1 bs) ∧ x.cell? ⟨bk, ok + pt, none⟩ = some (.bool bb)) := ⟨fun x hx => by
                    have h6 := below_to HW.out hx
                    have h2 := (HX6.out x h6).1
                    have hxr2 := range_below h2 hxr hXb
                    exact ⟨HCR.out x h6, hcr x h6 0 _ rfl, ⟨hcr x h6 1 _ rfl, hcb2 x h6⟩, hxr2 0 _ rfl, ⟨hxr2 1 _ rfl, (hxb.to h2).byi.1⟩, ((HX6.out x h6).2.cell hkb).trans hkp⟩⟩
                  have HKK : Box (kk < cll) := ⟨hk3⟩
                  have HPT : Box (pt < k) := ⟨hpk⟩
                  have HPK : Box (pt < kl) := ⟨by omega⟩
                  have hw7 : IntKind.i64.wrap ((pt : Int) + 1) = ((pt + 1 : Nat) : Int) := by rw [IntKind.wrap_i64]; omega
                  have hw8 : IntKind.i64.wrap ((kk : Int) + 1) = ((kk + 1 : Nat) : Int) := by rw [IntKind.wrap_i64]; omega
                  have HGE : Box (¬ (k : Int) ≤ (pt : Int)) := ⟨by omega⟩
                  have HPE : Box (pt = ofs + kk) := ⟨hpe⟩
                  have hcl9 : cll ≤ 1000000 := by
                    apply Classical.byContradiction
                    intro hbig
                    obtain ⟨pt9, hp9, hpe9, hpk9, _⟩ := HPO.out 100 (by rw [HCM.out.1]; omega)
                    omega
                  have HC9 : Box (-9223372036854775808 ≤ (cll : Int) - 1 ∧ (cll : Int) - 1 ≤ 9223372036854775807) := ⟨by omega, by omega⟩
                  rw [← hpe]
                  clear hXr hkc hxr hxb hcr hcb2 hkp hx9 hc9 hbb hpb hpe hkM hpX
                  go_upto_region 27 with (refine atIdx 55 ?_; refine wpList_run rfl _ _ (exec_idxT 55 27 Try.underlying55 1 (by kernel_rfl) _ _ rfl gc oc cl cvc ii rfl rfl HII.out) ?_; rw [Nat.mul_one])
                  (try dsimp only [List.append])
                  refine Seq.begin_any (by kernel_rfl) (fun wd hd => ?_)
                  have hbd : Below wr.heap.size wr wd := hd.mono (Nat.le_refl _)
                  refine Seq.take_lat (i := 0) (v := ?_) rfl (by kernel_rfl) (by kernel_rfl) (by kernel_rfl) (fun _ _ _ h => h) (by rfl) ?_ ?_
                  rotate_left
                  · intro w' hLat; change Below _ _ _ at hLat; go_simp <;> with_reducible rfl
                  try simp only [Act.put, List.setIfInBounds_toArray, List.set_cons_zero, List.set_cons_succ, List.getElem_toArray, List.getElem_cons_zero]
                  refine Seq.take_lat (i := 1) (v := ?_) rfl (by kernel_rfl) (by kernel_rfl) (by kernel_rfl) (fun _ _ _ h => h) (by rfl) ?_ ?_
                  rotate_left
                  · intro w' hLat; change Below _ _ _ at hLat; go_simp <;> with_reducible rfl
                  try simp only [Act.put, List.setIfInBounds_toArray, List.set_cons_zero, List.set_cons_succ, List.getElem_toArray, List.getElem_cons_zero, List.getElem_cons_succ]
                  refine Seq.take_lat (i := 2) (v := ?_) rfl (by kernel_rfl) (by kernel_rfl) (by kernel_rfl) (fun _ _ _ h => h) (by rfl) ?_ ?_
                  rotate_left
                  · intro w' hLat; change Below _ _ _ at hLat; go_simp <;> with_reducible rfl
                  try simp only [Act.put, List.setIfInBounds_toArray, List.set_cons_zero, List.set_cons_succ, List.getElem_toArray, List.getElem_cons_zero, List.getElem_cons_succ]
                  refine Seq.take_lat (i := 3) (v := .bool false) rfl (by kernel_rfl) (by kernel_rfl) (by kernel_rfl) (fun _ _ _ h => h) (by rfl) (fun w' hLat => exec_geF _ _ _ rfl (pt : Int) (k : Int) HGE.out rfl rfl) ?_
                  try simp only [Act.put, List.setIfInBounds_toArray, List.set_cons_zero, List.set_cons_succ, List.getElem_toArray, List.getElem_cons_zero, List.getElem_cons_succ]
                  refine Seq.take_lat (i := 4) (v := ?_) rfl (by kernel_rfl) (by kernel_rfl) (by kernel_rfl) (fun _ _ _ h => h) (by rfl) ?_ ?_
                  rotate_left
                  · intro w' hLat; change Below _ _ _ at hLat; go_simp <;> with_reducible rfl
                  try simp only [Act.put, List.setIfInBounds_toArray, List.set_cons_zero, List.set_cons_succ, List.getElem_toArray, List.getElem_cons_zero, List.getElem_cons_succ]
                  refine Seq.take_lat (i := 5) (v := ?_) rfl (by kernel_rfl) (by kernel_rfl) (by kernel_rfl) (fun _ _ _ h => h) (by rfl) ?_ ?_
                  rotate_left
                  · intro w' hLat; change Below _ _ _ at hLat; go_simp <;> with_reducible rfl
                  try simp only [Act.put, List.setIfInBounds_toArray, List.set_cons_zero, List.set_cons_succ, List.getElem_toArray, List.getElem_cons_zero, List.getElem_cons_succ]
                  refine Seq.take_lat (i := 6) (v := ?_) rfl (by kernel_rfl) (by kernel_rfl) (by kernel_rfl) (fun _ _ _ h => h) (by rfl) ?_ ?_
                  rotate_left
                  · intro w' hLat; change Below _ _ _ at hLat; go_simp <;> with_reducible rfl
                  try simp only [Act.put, List.setIfInBounds_toArray, List.set_cons_zero, List.set_cons_succ, List.getElem_toArray, List.getElem_cons_zero, List.getElem_cons_succ]
                  refine Seq.take_lat (i := 7) (v := .pointer (some ⟨gc, oc + ii * 1, none⟩)) rfl (by kernel_rfl) (by kernel_rfl) (by kernel_rfl) (fun _ _ _ h => h) (by rfl) (fun w' hLat => exec_idxT 55 27 Try.underlying55 1 (by kernel_rfl) _ _ rfl gc oc cl cvc ii rfl rfl HII.out) ?_
                  try simp only [Act.put, List.setIfInBounds_toArray, List.set_cons_zero, List.set_cons_succ, List.getElem_toArray, List.getElem_cons_zero, List.getElem_cons_succ]
                  refine Seq.take_lat (i := 8) (v := .slice (some ⟨g, p, none⟩) cll ccc) rfl (by kernel_rfl) (by kernel_rfl) (by kernel_rfl) (fun _ _ _ h => h) (by rfl) (fun w' hLat => exec_load1 27 _ _ rfl Try.underlying27 rfl _ rfl _ (by rw [Nat.mul_one]; exact (HF.out w' (below_to hbd hLat)).1)) ?_
                  try simp only [Act.put, List.setIfInBounds_toArray, List.set_cons_zero, List.set_cons_succ, List.getElem_toArray, List.getElem_cons_zero, List.getElem_cons_succ]
                  refine Seq.take_lat (i := 9) (v := ?_) rfl (by kernel_rfl) (by kernel_rfl) (by kernel_rfl) (fun _ _ _ h => h) (by rfl) ?_ ?_
                  rotate_left
                  · intro w' hLat; change Below _ _ _ at hLat; go_simp <;> with_reducible rfl
                  try simp only [Act.put, List.setIfInBounds_toArray, List.set_cons_zero, List.set_cons_succ, List.getElem_toArray, List.getElem_cons_zero, List.getElem_cons_succ]
                  refine Seq.take_lat (i := 10) (v := .pointer (some ⟨g, p + kk * 2, none⟩)) rfl (by kernel_rfl) (by kernel_rfl) (by kernel_rfl) (fun _ _ _ h => h) (by rfl) (fun w' hLat => exec_idxT 27 25 Try.underlying27 2 infoIm _ _ rfl g p cll ccc kk rfl rfl HKK.out) ?_
                  try simp only [Act.put, List.setIfInBounds_toArray, List.set_cons_zero, List.set_cons_succ, List.getElem_toArray, List.getElem_cons_zero, List.getElem_cons_succ]
                  refine Seq.take_lat (i := 11) (v := ?_) rfl (by kernel_rfl) (by kernel_rfl) (by kernel_rfl) (fun _ _ _ h => h) (by rfl) ?_ ?_
                  rotate_left
                  · intro w' hLat; change Below _ _ _ at hLat; go_simp <;> with_reducible rfl
                  try simp only [Act.put, List.setIfInBounds_toArray, List.set_cons_zero, List.set_cons_succ, List.getElem_toArray, List.getElem_cons_zero, List.getElem_cons_succ]
                  refine Seq.take_lat (i := 12) (v := .int .u64 blk) rfl (by kernel_rfl) (by kernel_rfl) (by kernel_rfl) (fun _ _ _ h => h) (by rfl) (fun w' hLat => exec_load1 22 _ _ rfl Try.underlying22 rfl _ rfl _ (HF.out w' (below_to hbd hLat)).2.1) ?_
                  try simp only [Act.put, List.setIfInBounds_toArray, List.set_cons_zero, List.set_cons_succ, List.getElem_toArray, List.getElem_cons_zero, List.getElem_cons_succ]
                  refine Seq.take_lat (i := 13) (v := ?_) rfl (by kernel_rfl) (by kernel_rfl) (by kernel_rfl) (fun _ _ _ h => h) (by rfl) ?_ ?_
                  rotate_left
                  · intro w' hLat; change Below _ _ _ at hLat; go_simp <;> with_reducible rfl
                  try simp only [Act.put, List.setIfInBounds_toArray, List.set_cons_zero, List.set_cons_succ, List.getElem_toArray, List.getElem_cons_zero, List.getElem_cons_succ]
                  refine Seq.take_lat (i := 14) (v := ?_) rfl (by kernel_rfl) (by kernel_rfl) (by kernel_rfl) (fun _ _ _ h => h) (by rfl) ?_ ?_
                  rotate_left
                  · intro w' hLat; change Below _ _ _ at hLat; go_simp <;> with_reducible rfl
                  try simp only [Act.put, List.setIfInBounds_toArray, List.set_cons_zero, List.set_cons_succ, List.getElem_toArray, List.getElem_cons_zero, List.getElem_cons_succ]
                  refine Seq.take_lat (i := 15) (v := .pointer (some ⟨bX, oX + pt * 2, none⟩)) rfl (by kernel_rfl) (by kernel_rfl) (by kernel_rfl) (fun _ _ _ h => h) (by rfl) (fun w' hLat => exec_idxT 27 25 Try.underlying27 2 infoIm _ _ rfl bX oX k xc pt rfl (by show Value.int .i64 _ = _; rfl) HPT.out) ?_
                  try simp only [Act.put, List.setIfInBounds_toArray, List.set_cons_zero, List.set_cons_succ, List.getElem_toArray, List.getElem_cons_zero, List.getElem_cons_succ]
                  refine Seq.take_lat (i := 16) (v := ?_) rfl (by kernel_rfl) (by kernel_rfl) (by kernel_rfl) (fun _ _ _ h => h) (by rfl) ?_ ?_
                  rotate_left
                  · intro w' hLat; change Below _ _ _ at hLat; go_simp <;> with_reducible rfl
                  try simp only [Act.put, List.setIfInBounds_toArray, List.set_cons_zero, List.set_cons_succ, List.getElem_toArray, List.getElem_cons_zero, List.getElem_cons_succ]
                  refine Seq.take_lat (i := 17) (v := .int .u64 blk) rfl (by kernel_rfl) (by kernel_rfl) (by kernel_rfl) (fun _ _ _ h => h) (by rfl) (fun w' hLat => exec_load1 22 _ _ rfl Try.underlying22 rfl _ rfl _ (HF.out w' (below_to hbd hLat)).2.2.2.1) ?_
                  try simp only [Act.put, List.setIfInBounds_toArray, List.set_cons_zero, List.set_cons_succ, List.getElem_toArray, List.getElem_cons_zero, List.getElem_cons_succ]
                  refine Seq.take_lat (i := 18) (v := ?_) rfl (by kernel_rfl) (by kernel_rfl) (by kernel_rfl) (fun _ _ _ h => h) (by rfl) ?_ ?_
                  rotate_left
                  · intro w' hLat; change Below _ _ _ at hLat; go_simp <;> with_reducible rfl
                  try simp only [Act.put, List.setIfInBounds_toArray, List.set_cons_zero, List.set_cons_succ, List.getElem_toArray, List.getElem_cons_zero, List.getElem_cons_succ]
                  refine Seq.take_lat (i := 19) (v := ?_) rfl (by kernel_rfl) (by kernel_rfl) (by kernel_rfl) (fun _ _ _ h => h) (by rfl) ?_ ?_
                  rotate_left
                  · intro w' hLat; change Below _ _ _ at hLat; go_simp <;> with_reducible rfl
                  try simp only [Act.put, List.setIfInBounds_toArray, List.set_cons_zero, List.set_cons_succ, List.getElem_toArray, List.getElem_cons_zero, List.getElem_cons_succ]
                  refine Seq.take_lat (i := 20) (v := ?_) rfl (by kernel_rfl) (by kernel_rfl) (by kernel_rfl) (fun _ _ _ h => h) (by rfl) ?_ ?_
                  rotate_left
                  · intro w' hLat; change Below _ _ _ at hLat; go_simp <;> with_reducible rfl
                  try simp only [Act.put, List.setIfInBounds_toArray, List.set_cons_zero, List.set_cons_succ, List.getElem_toArray, List.getElem_cons_zero, List.getElem_cons_succ]
                  refine Seq.take_lat (i := 21) (v := ?_) rfl (by kernel_rfl) (by kernel_rfl) (by kernel_rfl) (fun _ _ _ h => h) (by rfl) ?_ ?_
                  rotate_left
                  · intro w' hLat; change Below _ _ _ at hLat; go_simp <;> with_reducible rfl
                  try simp only [Act.put, List.setIfInBounds_toArray, List.set_cons_zero, List.set_cons_succ, List.getElem_toArray, List.getElem_cons_zero, List.getElem_cons_succ]
                  refine Seq.take_lat (i := 22) (v := ?_) rfl (by kernel_rfl) (by kernel_rfl) (by kernel_rfl) (fun _ _ _ h => h) (by rfl) ?_ ?_
                  rotate_left
                  · intro w' hLat; change Below _ _ _ at hLat; go_simp <;> with_reducible rfl
                  try simp only [Act.put, List.setIfInBounds_toArray, List.set_cons_zero, List.set_cons_succ, List.getElem_toArray, List.getElem_cons_zero, List.getElem_cons_succ]
                  refine Seq.take_lat (i := 23) (v := .pointer (some ⟨gc, oc + ii * 1, none⟩)) rfl (by kernel_rfl) (by kernel_rfl) (by kernel_rfl) (fun _ _ _ h => h) (by rfl) (fun w' hLat => exec_idxT 55 27 Try.underlying55 1 (by kernel_rfl) _ _ rfl gc oc cl cvc ii rfl rfl HII.out) ?_
                  try simp only [Act.put, List.setIfInBounds_toArray, List.set_cons_zero, List.set_cons_succ, List.getElem_toArray, List.getElem_cons_zero, List.getElem_cons_succ]
                  refine Seq.take_lat (i := 24) (v := .slice (some ⟨g, p, none⟩) cll ccc) rfl (by kernel_rfl) (by kernel_rfl) (by kernel_rfl) (fun _ _ _ h => h) (by rfl) (fun w' hLat => exec_load1 27 _ _ rfl Try.underlying27 rfl _ rfl _ (by rw [Nat.mul_one]; exact (HF.out w' (below_to hbd hLat)).1)) ?_
                  try simp only [Act.put, List.setIfInBounds_toArray, List.set_cons_zero, List.set_cons_succ, List.getElem_toArray, List.getElem_cons_zero, List.getElem_cons_succ]
                  refine Seq.take_lat (i := 25) (v := ?_) rfl (by kernel_rfl) (by kernel_rfl) (by kernel_rfl) (fun _ _ _ h => h) (by rfl) ?_ ?_
                  rotate_left
                  · intro w' hLat; change Below _ _ _ at hLat; go_simp <;> with_reducible rfl
                  try simp only [Act.put, List.setIfInBounds_toArray, List.set_cons_zero, List.set_cons_succ, List.getElem_toArray, List.getElem_cons_zero, List.getElem_cons_succ]
                  refine Seq.take_lat (i := 26) (v := .pointer (some ⟨g, p + kk * 2, none⟩)) rfl (by kernel_rfl) (by kernel_rfl) (by kernel_rfl) (fun _ _ _ h => h) (by rfl) (fun w' hLat => exec_idxT 27 25 Try.underlying27 2 infoIm _ _ rfl g p cll ccc kk rfl rfl HKK.out) ?_
                  try simp only [Act.put, List.setIfInBounds_toArray, List.set_cons_zero, List.set_cons_succ, List.getElem_toArray, List.getElem_cons_zero, List.getElem_cons_succ]
                  refine Seq.take_lat (i := 27) (v := ?_) rfl (by kernel_rfl) (by kernel_rfl) (by kernel_rfl) (fun _ _ _ h => h) (by rfl) ?_ ?_
                  rotate_left
                  · intro w' hLat; change Below _ _ _ at hLat; go_simp <;> with_reducible rfl
                  try simp only [Act.put, List.setIfInBounds_toArray, List.set_cons_zero, List.set_cons_succ, List.getElem_toArray, List.getElem_cons_zero, List.getElem_cons_succ]
                  refine Seq.take_lat (i := 28) (v := .slice ca1 cl1 cc1) rfl (by kernel_rfl) (by kernel_rfl) (by kernel_rfl) (fun _ _ _ h => h) (by rfl) (fun w' hLat => exec_load1 23 _ _ rfl Try.underlying23 rfl _ rfl _ (HF.out w' (below_to hbd hLat)).2.2.1.1) ?_
                  try simp only [Act.put, List.setIfInBounds_toArray, List.set_cons_zero, List.set_cons_succ, List.getElem_toArray, List.getElem_cons_zero, List.getElem_cons_succ]
                  refine Seq.take_lat (i := 29) (v := .string s) rfl (by kernel_rfl) (by kernel_rfl) (by kernel_rfl) (fun _ _ _ h => h) (by rfl) (fun w' hLat => by rw [← HSS.out]; exact exec_conv (.tmp 129) rfl rfl (HF.out w' (below_to hbd hLat)).2.2.1.2) ?_
                  try simp only [Act.put, List.setIfInBounds_toArray, List.set_cons_zero, List.set_cons_succ, List.getElem_toArray, List.getElem_cons_zero, List.getElem_cons_succ]
                  refine Seq.take_lat (i := 30) (v := ?_) rfl (by kernel_rfl) (by kernel_rfl) (by kernel_rfl) (fun _ _ _ h => h) (by rfl) ?_ ?_
                  rotate_left
                  · intro w' hLat; change Below _ _ _ at hLat; go_simp <;> with_reducible rfl
                  try simp only [Act.put, List.setIfInBounds_toArray, List.set_cons_zero, List.set_cons_succ, List.getElem_toArray, List.getElem_cons_zero, List.getElem_cons_succ]
                  refine Seq.take_lat (i := 31) (v := ?_) rfl (by kernel_rfl) (by kernel_rfl) (by kernel_rfl) (fun _ _ _ h => h) (by rfl) ?_ ?_
                  rotate_left
                  · intro w' hLat; change Below _ _ _ at hLat; go_simp <;> with_reducible rfl
                  try simp only [Act.put, List.setIfInBounds_toArray, List.set_cons_zero, List.set_cons_succ, List.getElem_toArray, List.getElem_cons_zero, List.getElem_cons_succ]
                  refine Seq.take_lat (i := 32) (v := .pointer (some ⟨bX, oX + pt * 2, none⟩)) rfl (by kernel_rfl) (by kernel_rfl) (by kernel_rfl) (fun _ _ _ h => h) (by rfl) (fun w' hLat => exec_idxT 27 25 Try.underlying27 2 infoIm _ _ rfl bX oX k xc pt rfl (by show Value.int .i64 _ = _; rfl) HPT.out) ?_
                  try simp only [Act.put, List.setIfInBounds_toArray, List.set_cons_zero, List.set_cons_succ, List.getElem_toArray, List.getElem_cons_zero, List.getElem_cons_succ]
                  refine Seq.take_lat (i := 33) (v := ?_) rfl (by kernel_rfl) (by kernel_rfl) (by kernel_rfl) (fun _ _ _ h => h) (by rfl) ?_ ?_
                  rotate_left
                  · intro w' hLat; change Below _ _ _ at hLat; go_simp <;> with_reducible rfl
                  try simp only [Act.put, List.setIfInBounds_toArray, List.set_cons_zero, List.set_cons_succ, List.getElem_toArray, List.getElem_cons_zero, List.getElem_cons_succ]
                  refine Seq.take_lat (i := 34) (v := .slice xa1 xl1 xc1) rfl (by kernel_rfl) (by kernel_rfl) (by kernel_rfl) (fun _ _ _ h => h) (by rfl) (fun w' hLat => exec_load1 23 _ _ rfl Try.underlying23 rfl _ rfl _ (HF.out w' (below_to hbd hLat)).2.2.2.2.1.1) ?_
                  try simp only [Act.put, List.setIfInBounds_toArray, List.set_cons_zero, List.set_cons_succ, List.getElem_toArray, List.getElem_cons_zero, List.getElem_cons_succ]
                  refine Seq.take_lat (i := 35) (v := .string s) rfl (by kernel_rfl) (by kernel_rfl) (by kernel_rfl) (fun _ _ _ h => h) (by rfl) (fun w' hLat => by rw [← HSS.out]; exact exec_conv (.tmp 135) rfl rfl (HF.out w' (below_to hbd hLat)).2.2.2.2.1.2) ?_
                  try simp only [Act.put, List.setIfInBounds_toArray, List.set_cons_zero, List.set_cons_succ, List.getElem_toArray, List.getElem_cons_zero, List.getElem_cons_succ]
                  refine Seq.take_lat (i := 36) (v := .bool false) rfl (by kernel_rfl) (by kernel_rfl) (by kernel_rfl) (fun _ _ _ h => h) (by rfl) (fun w' hLat => exec_neT2 _ _ _ rfl s rfl rfl) ?_
                  try simp only [Act.put, List.setIfInBounds_toArray, List.set_cons_zero, List.set_cons_succ, List.getElem_toArray, List.getElem_cons_zero, List.getElem_cons_succ]
                  refine Seq.take_lat (i := 37) (v := ?_) rfl (by kernel_rfl) (by kernel_rfl) (by kernel_rfl) (fun _ _ _ h => h) (by rfl) ?_ ?_
                  rotate_left
                  · intro w' hLat; change Below _ _ _ at hLat; go_simp <;> with_reducible rfl
                  try simp only [Act.put, List.setIfInBounds_toArray, List.set_cons_zero, List.set_cons_succ, List.getElem_toArray, List.getElem_cons_zero, List.getElem_cons_succ]
                  refine Seq.take_lat (i := 38) (v := ?_) rfl (by kernel_rfl) (by kernel_rfl) (by kernel_rfl) (fun _ _ _ h => h) (by rfl) ?_ ?_
                  rotate_left
                  · intro w' hLat; change Below _ _ _ at hLat; go_simp <;> with_reducible rfl
                  try simp only [Act.put, List.setIfInBounds_toArray, List.set_cons_zero, List.set_cons_succ, List.getElem_toArray, List.getElem_cons_zero, List.getElem_cons_succ]
                  refine Seq.take_lat (i := 39) (v := ?_) rfl (by kernel_rfl) (by kernel_rfl) (by kernel_rfl) (fun _ _ _ h => h) (by rfl) ?_ ?_
                  rotate_left
                  · intro w' hLat; change Below _ _ _ at hLat; go_simp <;> with_reducible rfl
                  try simp only [Act.put, List.setIfInBounds_toArray, List.set_cons_zero, List.set_cons_succ, List.getElem_toArray, List.getElem_cons_zero, List.getElem_cons_succ]
                  refine Seq.take_lat (i := 40) (v := ?_) rfl (by kernel_rfl) (by kernel_rfl) (by kernel_rfl) (fun _ _ _ h => h) (by rfl) ?_ ?_
                  rotate_left
                  · intro w' hLat; change Below _ _ _ at hLat; go_simp <;> with_reducible rfl
                  try simp only [Act.put, List.setIfInBounds_toArray, List.set_cons_zero, List.set_cons_succ, List.getElem_toArray, List.getElem_cons_zero, List.getElem_cons_succ]
                  refine Seq.take_lat (i := 41) (v := .pointer (some ⟨bk, ok + pt * 1, none⟩)) rfl (by kernel_rfl) (by kernel_rfl) (by kernel_rfl) (fun _ _ _ h => h) (by rfl) (fun w' hLat => exec_idxT 46 4 Try.underlying46 1 (by kernel_rfl) _ _ rfl bk ok kl kc pt rfl rfl HPK.out) ?_
                  try simp only [Act.put, List.setIfInBounds_toArray, List.set_cons_zero, List.set_cons_succ, List.getElem_toArray, List.getElem_cons_zero, List.getElem_cons_succ]
                  refine Seq.take_lat (i := 42) (v := .bool bb) rfl (by kernel_rfl) (by kernel_rfl) (by kernel_rfl) (fun _ _ _ h => h) (by rfl) (fun w' hLat => exec_load1 4 _ _ rfl Try.underlying4 rfl _ rfl _ (by rw [Nat.mul_one]; exact (HF.out w' (below_to hbd hLat)).2.2.2.2.2)) ?_
                  try simp only [Act.put, List.setIfInBounds_toArray, List.set_cons_zero, List.set_cons_succ, List.getElem_toArray, List.getElem_cons_zero, List.getElem_cons_succ]
                  refine Seq.take_lat (i := 43) (v := ?_) rfl (by kernel_rfl) (by kernel_rfl) (by kernel_rfl) (fun _ _ _ h => h) (by rfl) ?_ ?_
                  rotate_left
                  · intro w' hLat; change Below _ _ _ at hLat; go_simp <;> with_reducible rfl
                  try simp only [Act.put, List.setIfInBounds_toArray, List.set_cons_zero, List.set_cons_succ, List.getElem_toArray, List.getElem_cons_zero, List.getElem_cons_succ]
                  refine Seq.take_lat (i := 44) (v := ?_) rfl (by kernel_rfl) (by kernel_rfl) (by kernel_rfl) (fun _ _ _ h => h) (by rfl) ?_ ?_
                  rotate_left
                  · intro w' hLat; change Below _ _ _ at hLat; go_simp <;> with_reducible rfl
                  try simp only [Act.put, List.setIfInBounds_toArray, List.set_cons_zero, List.set_cons_succ, List.getElem_toArray, List.getElem_cons_zero, List.getElem_cons_succ]
                  refine Seq.take_lat (i := 45) (v := ?_) rfl (by kernel_rfl) (by kernel_rfl) (by kernel_rfl) (fun _ _ _ h => h) (by rfl) ?_ ?_
                  rotate_left
                  · intro w' hLat; change Below _ _ _ at hLat; go_simp <;> with_reducible rfl
                  try simp only [Act.put, List.setIfInBounds_toArray, List.set_cons_zero, List.set_cons_succ, List.getElem_toArray, List.getElem_cons_zero, List.getElem_cons_succ]
                  refine Seq.take_lat (i := 46) (v := .pointer (some ⟨gc, oc + ii * 1, none⟩)) rfl (by kernel_rfl) (by kernel_rfl) (by kernel_rfl) (fun _ _ _ h => h) (by rfl) (fun w' hLat => exec_idxT 55 27 Try.underlying55 1 (by kernel_rfl) _ _ rfl gc oc cl cvc ii rfl rfl HII.out) ?_
                  try simp only [Act.put, List.setIfInBounds_toArray, List.set_cons_zero, List.set_cons_succ, List.getElem_toArray, List.getElem_cons_zero, List.getElem_cons_succ]
                  refine Seq.take_lat (i := 47) (v := .slice (some ⟨g, p, none⟩) cll ccc) rfl (by kernel_rfl) (by kernel_rfl) (by kernel_rfl) (fun _ _ _ h => h) (by rfl) (fun w' hLat => exec_load1 27 _ _ rfl Try.underlying27 rfl _ rfl _ (by rw [Nat.mul_one]; exact (HF.out w' (below_to hbd hLat)).1)) ?_
                  try simp only [Act.put, List.setIfInBounds_toArray, List.set_cons_zero, List.set_cons_succ, List.getElem_toArray, List.getElem_cons_zero, List.getElem_cons_succ]
                  refine Seq.take_lat (i := 48) (v := ?_) rfl (by kernel_rfl) (by kernel_rfl) (by kernel_rfl) (fun _ _ _ h => h) (by rfl) ?_ ?_
                  rotate_left
                  · intro w' hLat; change Below _ _ _ at hLat; go_simp <;> with_reducible rfl
                  try simp only [Act.put, List.setIfInBounds_toArray, List.set_cons_zero, List.set_cons_succ, List.getElem_toArray, List.getElem_cons_zero, List.getElem_cons_succ]
                  refine Seq.take_lat (i := 49) (v := .int .i64 ((cll : Int) - 1)) rfl (by kernel_rfl) (by kernel_rfl) (by kernel_rfl) (fun _ _ _ h => h) (by rfl) (fun w' hLat => exec_subE _ _ _ rfl (cll : Int) 1 ((cll : Int) - 1) rfl HC9.out rfl rfl) ?_
                  try simp only [Act.put, List.setIfInBounds_toArray, List.set_cons_zero, List.set_cons_succ, List.getElem_toArray, List.getElem_cons_zero, List.getElem_cons_succ]
                  refine Seq.take_lat (i := 50) (v := .bool bb) rfl (by kernel_rfl) (by kernel_rfl) (by kernel_rfl) (fun _ _ _ h => h) (by rfl) (fun w' hLat => exec_eqB _ _ _ rfl (kk : Int) ((cll : Int) - 1) bb HBB.out rfl rfl) ?_
                  try simp only [Act.put, List.setIfInBounds_toArray, List.set_cons_zero, List.set_cons_succ, List.getElem_toArray, List.getElem_cons_zero, List.getElem_cons_succ]
                  refine Seq.take_lat (i := 51) (v := .bool false) rfl (by kernel_rfl) (by kernel_rfl) (by kernel_rfl) (fun _ _ _ h => h) (by rfl) (fun w' hLat => exec_neB _ _ _ rfl bb rfl rfl) ?_
                  try simp only [Act.put, List.setIfInBounds_toArray, List.set_cons_zero, List.set_cons_succ, List.getElem_toArray, List.getElem_cons_zero, List.getElem_cons_succ]
                  refine Seq.take_lat (i := 52) (v := ?_) rfl (by kernel_rfl) (by kernel_rfl) (by kernel_rfl) (fun _ _ _ h => h) (by rfl) ?_ ?_
                  rotate_left
                  · intro w' hLat; change Below _ _ _ at hLat; go_simp <;> with_reducible rfl
                  try simp only [Act.put, List.setIfInBounds_toArray, List.set_cons_zero, List.set_cons_succ, List.getElem_toArray, List.getElem_cons_zero, List.getElem_cons_succ]
                  refine wpAnyH_done (by kernel_rfl) ?_ _
                  have HD : Box (Below x6.heap.size x6 wd) := ⟨below_to HW.out hbd⟩
                  clear hd hbd
                  go_wp2
                  go_roundw
                  case rel => exact ⟨kk + 1, HKK.out, by go_num, by rw [show ofs + (kk + 1) = pt + 1 by have := HPE.out; omega]; go_num, HD⟩
                  case measure => simp [intOf]; have := HKK.out; omega
                · have hk31 : decide ((kk : Int) < (cll : Int)) = false := by simp; omega
                  have HE : Box (offs (chS L).1 (ii + 1) = ofs + kk) := ⟨by rw [HOI.out]; omega⟩
                  have hw8 : IntKind.i64.wrap ((ii : Int) + 1) = ((ii + 1 : Nat) : Int) := by rw [IntKind.wrap_i64]; have := HCN.out.2; omega
                  go_wp2_with (refine atIdx 55 ?_; refine wpList_run rfl _ _ (exec_idxT 55 27 Try.underlying55 1 (by kernel_rfl) _ _ rfl gc oc cl cvc ii rfl rfl HII.out) ?_; rw [Nat.mul_one])
                  exact ⟨⟨ii + 1, HII.out, by go_num, by rw [HE.out]; first | rfl | simp, HW⟩, by simp [intOf]; have := HII.out; omega⟩
            · obtain rfl : ii = cl := by omega
              have hi1 : decide ((ii : Int) < (ii : Int)) = false := by simp
              have heq : offs (chS L).1 ii = k := by
                rw [← HO.out.1, offs_all, ← HO.out.2, HL.out.2]
              rw [heq]
              clear heq
              go_wp2
              go_ret
              exact ⟨rfl, (HX6.out wr HQ.out).2⟩
        · have hgt : ¬ (0 : Int) < (k : Int) := by omega
          go_upto_region 18 with (go_at_call 18; refine HCO.out.mono ?_; rintro e x6 ⟨cv, C, rfl, hC1, hC2, hC3⟩; obtain ⟨cva, cvc, rfl⟩ := own_form2 hC1.row; have H6 : Box (Chs x6 wr.heap.size (.slice cva C.length cvc) C ∧ C.map (fun c => c.M.map pl) = (chS L).1 ∧ Below wr.heap.size wr x6 ∧ C.length = cn) := ⟨hC1, hC2, hC3, by have := congrArg List.length hC2; rw [List.length_map] at this; rw [this]; exact HCN.out.1⟩; clear hC1 hC2 hC3)
          clear hgt
          obtain ⟨cl, hcl⟩ : ∃ cl, C.length = cl := ⟨_, rfl⟩
          have HCL2 : Box (C.length = cl ∧ cl = cn) := ⟨hcl, by have := H6.out.2.2.2; omega⟩
          rw [hcl]
          obtain rfl : cl = cn := HCL2.out.2
          clear hcl
          have HX6 : Box (∀ x, Below x6.heap.size x6 x → Below x2.heap.size x2 x ∧ Below w.heap.size w x) := ⟨fun x hx => by
            have h1 := below_to HG1.out.2 (below_to H6.out.2.2.1 hx)
            exact ⟨h1, below_to H2.out.1 h1⟩⟩
          go_upto_region 22 with fail
          go_wp2
          go_loopw [12, 13] (fun at' i wq => ∃ ii : Nat, ii ≤ cl ∧ i = .int .i64 (ii : Int) ∧ at' = .int .i64 ((offs (chS L).1 ii : Nat) : Int) ∧ Box (Below x6.heap.size x6 wq)) (fun _ i _ => cl - (intOf i).toNat)
          case atStart => exact ⟨0, Nat.zero_le _, rfl, rfl, ⟨Below.refl _ _⟩⟩
          case round =>
            obtain ⟨ii, hii, rfl, rfl, HQ⟩ := hrel
            have HO : Box ((chS L).1.length = cl ∧ L = ((chS L).1.map ofP).flatten) := ⟨HCN.out.1, by have := (chS_split L).1; rw [HCL.out] at this; simpa using this⟩
            by_cases hi : ii < cl
            · have hi1 : decide ((ii : Int) < (cl : Int)) = true := by simp; omega
              have hiC : ii < C.length := by have := HCL2.out.1; omega
              have hio : ii < (chS L).1.length := by have := HO.out.1; omega
              obtain ⟨gc, oc, hce, hcb, hcr⟩ := (own_tb (fun _ => rfl) H6.out.1.row rfl : Tb x6 cva 1 slc C) (by omega)
              subst hce
              have hcr1 := hcr ii hiC
              obtain ⟨h1, ⟨g, p, hgB, hgl, hca, hcM⟩, hcO⟩ := H6.out.1.im C[ii] (List.getElem_mem hiC)
              have hoC : (chS L).1[ii] = C[ii].M.map pl := by
                have e := H6.out.2.1
                have e2 : (C.map (fun c => c.M.map pl))[ii]? = (chS L).1[ii]? := by rw [e]
                rw [List.getElem?_eq_getElem (by simpa using hiC), List.getElem?_eq_getElem hio] at e2
                simpa using (Option.some.inj e2).symm
              obtain ⟨⟨ca, cll, ccc, cM⟩, hCC⟩ : ∃ c, C[ii] = c := ⟨_, rfl⟩
              rw [hCC] at h1 hca hcM hcO hcr1 hoC
              simp only at h1 hca hcM hcO hoC
              subst hca
              have HII : Box (ii < cl) := ⟨hi⟩
              have HCR : Box (∀ x, Below x6.heap.size x6 x → x.cell? ⟨gc, oc + ii, none⟩ = some (.slice (some ⟨g, p, none⟩) cll ccc)) := ⟨fun x hx => by
                have := hcr1 0 _ rfl
                rw [Nat.mul_one, Nat.add_zero] at this
                exact (hx.cell hcb).trans this⟩
              have HCM : Box (cM.length = cll ∧ (∀ x, Below x6.heap.size x6 x → ∀ i (h : i < cM.length), x.rangeAt g (p + i * 2) (imc cM[i])) ∧ (∀ x, Below x6.heap.size x6 x → ∀ m ∈ cM, Bytes x m.ba m.bl m.bs)) := ⟨h1, fun x hx i h => range_below hx (hcM i h) hgl, fun x hx m hm => ((hcO m hm).to hx).byi.1⟩
              have HOI : Box (offs (chS L).1 (ii + 1) = offs (chS L).1 ii + cll) := ⟨by rw [offs_succ _ _ hio, hoC, List.length_map, h1]⟩
              have HPO : Box (∀ kk (hk : kk < cM.length), ∃ (pt : Nat) (hp : pt < X.length), pt = offs (chS L).1 ii + kk ∧ pt < k ∧ pl X[pt] = pl cM[kk] ∧ K.getD pt false = decide (kk + 1 = cll)) := ⟨fun kk hk => by
                have hk2 : kk < ((chS L).1[ii]).length := by rw [hoC]; simpa using hk
                have e := flat_offs (chS L).1 ii kk hio hk2
                rw [← HO.out.2] at e
                obtain ⟨pp, hpp0⟩ : ∃ pp, offs (chS L).1 ii + kk = pp := ⟨_, rfl⟩
                rw [hpp0] at e
                have hlt := (List.getElem?_eq_some_iff.1 e).1
                have hR : pp < RR.length := by rw [HRR.out.1]; have := HL.out.2; omega
                have hX : pp < X.length := by rw [H2.out.2.1]; have := HL.out.2; omega
                have e3 : L[pp]? = (RR.map rpl)[pp]? := by rw [HL.out.1]
                rw [List.getElem?_map, List.getElem?_eq_getElem hR, HRR.out.2 pp hR hX] at e3
                rw [e3] at e
                simp only [Option.map_some, Option.some.injEq, rpl, Prod.mk.injEq] at e
                refine ⟨pp, hX, hpp0.symm, by have := HL.out.2; omega, ?_, ?_⟩
                · rw [e.1]
                  simp [hoC]
                · rw [e.2, hoC, List.length_map, h1]⟩
              clear hcr hcr1 h1 hcM hcO hoC hCC hiC hio
              obtain ⟨ofs, hofs⟩ : ∃ f, offs (chS L).1 ii = f := ⟨_, rfl⟩
              rw [hofs] at HOI HPO ⊢
              have hofl : ofs ≤ 20 ∨ True := .inr trivial
              clear hofs hofl
              obtain ⟨wo, hwo⟩ : ∃ wo, wo = wr := ⟨_, rfl⟩
              go_wp2
              (try rw [hi1])
              go_loopw [12, 14] (fun at' kq wq => ∃ kk : Nat, kk ≤ cll ∧ kq = .int .i64 (kk : Int) ∧ at' = .int .i64 ((ofs + kk : Nat) : Int) ∧ Box (Below x6.heap.size x6 wq)) (fun _ kq _ => cll - (intOf kq).toNat)
              case atStart => exact ⟨0, Nat.zero_le _, rfl, rfl, HQ⟩
              case round =>
                clear hwo
                obtain ⟨kk, hkk, rfl, rfl, HW⟩ := hrel
                have hcc := HCR.out wr HW.out
                by_cases hk3 : kk < cll
                · have hk31 : decide ((kk : Int) < (cll : Int)) = true := by simp; omega
                  have hkM : kk < cM.length := by rw [HCM.out.1]; exact hk3
                  obtain ⟨pt, hpX, hpe, hpk, hpp, hpb⟩ := HPO.out kk hkM
                  obtain ⟨bX, oX, hXe, hXb, hXr⟩ := (H2.out.2.2.1).tb (by omega)
                  subst hXe
                  obtain ⟨bk, ok, hke, hkb, hkc⟩ := (HM.out w (Below.refl _ _)).2.2 (by omega)
                  first | subst hke | (simp only [Option.some.injEq, Addr.mk.injEq, and_true] at hke; rw [hke.1, hke.2]; clear hke)
                  have hxr := hXr pt hpX
                  have hxb := (H2.out.2.2.2.1 X[pt] (List.getElem_mem hpX))
                  have hcr := fun x hx => HCM.out.2.1 x hx kk hkM
                  have hcb2 := fun x hx => HCM.out.2.2 x hx cM[kk] (List.getElem_mem hkM)
                  have hkp := hkc pt (by omega)
                  rw [hpb] at hkp
                  obtain ⟨⟨blk, xa1, xl1, xc1, bs⟩, hx9⟩ : ∃ m, X[pt] = m := ⟨_, rfl⟩
                  obtain ⟨⟨blk2, ca1, cl1, cc1, bs2⟩, hc9⟩ : ∃ m, cM[kk] = m := ⟨_, rfl⟩
                  rw [hx9, hc9] at hpp
                  rw [hx9] at hxr hxb
                  simp only [hc9] at hcr hcb2
                  simp only [pl, Prod.mk.injEq] at hpp
                  obtain ⟨rfl, rfl⟩ := hpp
                  obtain ⟨s, HSS⟩ : ∃ s, Box (strOfNums bs = s) := ⟨_, ⟨rfl⟩⟩
                  obtain ⟨bb, hbb⟩ : ∃ b, decide (kk + 1 = cll) = b := ⟨_, rfl⟩
                  rw [hbb] at hkp
                  have HBB : Box ((((kk : Int) == (cll : Int) - 1)) = bb) := ⟨by rw [← hbb, Bool.eq_iff_iff]; simp; omega⟩
                  have HF : Box (∀ x, Below wr.heap.size wr x → x.cell? ⟨gc, oc + ii, none⟩ = some (.slice (some ⟨g, p, none⟩) cll ccc) ∧ x.cell? ⟨g, p + kk * 2, none⟩ = some (.int .u64 blk) ∧ (x.cell? ⟨g, p + kk * 2 + 1, none⟩ = some (.slice ca1 cl1 cc1) ∧ Bytes x ca1 cl1 bs) ∧ x.cell? ⟨bX, oX + pt * 2, none⟩ = some (.int .u64 blk) ∧ (x.cell? ⟨bX, oX + pt * 2 + 1, none⟩ = some (.slice xa1 xl1 xc1) ∧ Bytes x xa1 xl1 bs) ∧ x.cell? ⟨bk, ok + pt, none⟩ = some (.bool bb)) := ⟨fun x hx => by
                    have h6 := below_to HW.out hx
                    have h2 := (HX6.out x h6).1
                    have hxr2 := range_below h2 hxr hXb
                    exact ⟨HCR.out x h6, hcr x h6 0 _ rfl, ⟨hcr x h6 1 _ rfl, hcb2 x h6⟩, hxr2 0 _ rfl, ⟨hxr2 1 _ rfl, (hxb.to h2).byi.1⟩, ((HX6.out x h6).2.cell hkb).trans hkp⟩⟩
                  have HKK : Box (kk < cll) := ⟨hk3⟩
                  have HPT : Box (pt < k) := ⟨hpk⟩
                  have HPK : Box (pt < kl) := ⟨by omega⟩
                  have hw7 : IntKind.i64.wrap ((pt : Int) + 1) = ((pt + 1 : Nat) : Int) := by rw [IntKind.wrap_i64]; omega
                  have hw8 : IntKind.i64.wrap ((kk : Int) + 1) = ((kk + 1 : Nat) : Int) := by rw [IntKind.wrap_i64]; omega
                  have HGE : Box (¬ (k : Int) ≤ (pt : Int)) := ⟨by omega⟩
                  have HPE : Box (pt = ofs + kk) := ⟨hpe⟩
                  have hcl9 : cll ≤ 1000000 := by
                    apply Classical.byContradiction
                    intro hbig
                    obtain ⟨pt9, hp9, hpe9, hpk9, _⟩ := HPO.out 100 (by rw [HCM.out.1]; omega)
                    omega
                  have HC9 : Box (-9223372036854775808 ≤ (cll : Int) - 1 ∧ (cll : Int) - 1 ≤ 9223372036854775807) := ⟨by omega, by omega⟩
                  rw [← hpe]
                  clear hXr hkc hxr hxb hcr hcb2 hkp hx9 hc9 hbb hpb hpe hkM hpX
                  go_upto_region 27 with (refine atIdx 55 ?_; refine wpList_run rfl _ _ (exec_idxT 55 27 Try.underlying55 1 (by kernel_rfl) _ _ rfl gc oc cl cvc ii rfl rfl HII.out) ?_; rw [Nat.mul_one])
                  (try dsimp only [List.append])
                  refine Seq.begin_any (by kernel_rfl) (fun wd hd => ?_)
                  have hbd : Below wr.heap.size wr wd := hd.mono (Nat.le_refl _)
                  refine Seq.take_lat (i := 0) (v := ?_) rfl (by kernel_rfl) (by kernel_rfl) (by kernel_rfl) (fun _ _ _ h => h) (by rfl) ?_ ?_
                  rotate_left
                  · intro w' hLat; change Below _ _ _ at hLat; go_simp <;> with_reducible rfl
                  try simp only [Act.put, List.setIfInBounds_toArray, List.set_cons_zero, List.set_cons_succ, List.getElem_toArray, List.getElem_cons_zero]
                  refine Seq.take_lat (i := 1) (v := ?_) rfl (by kernel_rfl) (by kernel_rfl) (by kernel_rfl) (fun _ _ _ h => h) (by rfl) ?_ ?_
                  rotate_left
                  · intro w' hLat; change Below _ _ _ at hLat; go_simp <;> with_reducible rfl
                  try simp only [Act.put, List.setIfInBounds_toArray, List.set_cons_zero, List.set_cons_succ, List.getElem_toArray, List.getElem_cons_zero, List.getElem_cons_succ]
                  refine Seq.take_lat (i := 2) (v := ?_) rfl (by kernel_rfl) (by kernel_rfl) (by kernel_rfl) (fun _ _ _ h => h) (by rfl) ?_ ?_
                  rotate_left
                  · intro w' hLat; change Below _ _ _ at hLat; go_simp <;> with_reducible rfl
                  try simp only [Act.put, List.setIfInBounds_toArray, List.set_cons_zero, List.set_cons_succ, List.getElem_toArray, List.getElem_cons_zero, List.getElem_cons_succ]
                  refine Seq.take_lat (i := 3) (v := .bool false) rfl (by kernel_rfl) (by kernel_rfl) (by kernel_rfl) (fun _ _ _ h => h) (by rfl) (fun w' hLat => exec_geF _ _ _ rfl (pt : Int) (k : Int) HGE.out rfl rfl) ?_
                  try simp only [Act.put, List.setIfInBounds_toArray, List.set_cons_zero, List.set_cons_succ, List.getElem_toArray, List.getElem_cons_zero, List.getElem_cons_succ]
                  refine Seq.take_lat (i := 4) (v := ?_) rfl (by kernel_rfl) (by kernel_rfl) (by kernel_rfl) (fun _ _ _ h => h) (by rfl) ?_ ?_
                  rotate_left
                  · intro w' hLat; change Below _ _ _ at hLat; go_simp <;> with_reducible rfl
                  try simp only [Act.put, List.setIfInBounds_toArray, List.set_cons_zero, List.set_cons_succ, List.getElem_toArray, List.getElem_cons_zero, List.getElem_cons_succ]
                  refine Seq.take_lat (i := 5) (v := ?_) rfl (by kernel_rfl) (by kernel_rfl) (by kernel_rfl) (fun _ _ _ h => h) (by rfl) ?_ ?_
                  rotate_left
                  · intro w' hLat; change Below _ _ _ at hLat; go_simp <;> with_reducible rfl
                  try simp only [Act.put, List.setIfInBounds_toArray, List.set_cons_zero, List.set_cons_succ, List.getElem_toArray, List.getElem_cons_zero, List.getElem_cons_succ]
                  refine Seq.take_lat (i := 6) (v := ?_) rfl (by kernel_rfl) (by kernel_rfl) (by kernel_rfl) (fun _ _ _ h => h) (by rfl) ?_ ?_
                  rotate_left
                  · intro w' hLat; change Below _ _ _ at hLat; go_simp <;> with_reducible rfl
                  try simp only [Act.put, List.setIfInBounds_toArray, List.set_cons_zero, List.set_cons_succ, List.getElem_toArray, List.getElem_cons_zero, List.getElem_cons_succ]
                  refine Seq.take_lat (i := 7) (v := .pointer (some ⟨gc, oc + ii * 1, none⟩)) rfl (by kernel_rfl) (by kernel_rfl) (by kernel_rfl) (fun _ _ _ h => h) (by rfl) (fun w' hLat => exec_idxT 55 27 Try.underlying55 1 (by kernel_rfl) _ _ rfl gc oc cl cvc ii rfl rfl HII.out) ?_
                  try simp only [Act.put, List.setIfInBounds_toArray, List.set_cons_zero, List.set_cons_succ, List.getElem_toArray, List.getElem_cons_zero, List.getElem_cons_succ]
                  refine Seq.take_lat (i := 8) (v := .slice (some ⟨g, p, none⟩) cll ccc) rfl (by kernel_rfl) (by kernel_rfl) (by kernel_rfl) (fun _ _ _ h => h) (by rfl) (fun w' hLat => exec_load1 27 _ _ rfl Try.underlying27 rfl _ rfl _ (by rw [Nat.mul_one]; exact (HF.out w' (below_to hbd hLat)).1)) ?_
                  try simp only [Act.put, List.setIfInBounds_toArray, List.set_cons_zero, List.set_cons_succ, List.getElem_toArray, List.getElem_cons_zero, List.getElem_cons_succ]
                  refine Seq.take_lat (i := 9) (v := ?_) rfl (by kernel_rfl) (by kernel_rfl) (by kernel_rfl) (fun _ _ _ h => h) (by rfl) ?_ ?_
                  rotate_left
                  · intro w' hLat; change Below _ _ _ at hLat; go_simp <;> with_reducible rfl
                  try simp only [Act.put, List.setIfInBounds_toArray, List.set_cons_zero, List.set_cons_succ, List.getElem_toArray, List.getElem_cons_zero, List.getElem_cons_succ]
                  refine Seq.take_lat (i := 10) (v := .pointer (some ⟨g, p + kk * 2, none⟩)) rfl (by kernel_rfl) (by kernel_rfl) (by kernel_rfl) (fun _ _ _ h => h) (by rfl) (fun w' hLat => exec_idxT 27 25 Try.underlying27 2 infoIm _ _ rfl g p cll ccc kk rfl rfl HKK.out) ?_
                  try simp only [Act.put, List.setIfInBounds_toArray, List.set_cons_zero, List.set_cons_succ, List.getElem_toArray, List.getElem_cons_zero, List.getElem_cons_succ]
                  refine Seq.take_lat (i := 11) (v := ?_) rfl (by kernel_rfl) (by kernel_rfl) (by kernel_rfl) (fun _ _ _ h => h) (by rfl) ?_ ?_
                  rotate_left
                  · intro w' hLat; change Below _ _ _ at hLat; go_simp <;> with_reducible rfl
                  try simp only [Act.put, List.setIfInBounds_toArray, List.set_cons_zero, List.set_cons_succ, List.getElem_toArray, List.getElem_cons_zero, List.getElem_cons_succ]
                  refine Seq.take_lat (i := 12) (v := .int .u64 blk) rfl (by kernel_rfl) (by kernel_rfl) (by kernel_rfl) (fun _ _ _ h => h) (by rfl) (fun w' hLat => exec_load1 22 _ _ rfl Try.underlying22 rfl _ rfl _ (HF.out w' (below_to hbd hLat)).2.1) ?_
                  try simp only [Act.put, List.setIfInBounds_toArray, List.set_cons_zero, List.set_cons_succ, List.getElem_toArray, List.getElem_cons_zero, List.getElem_cons_succ]
                  refine Seq.take_lat (i := 13) (v := ?_) rfl (by kernel_rfl) (by kernel_rfl) (by kernel_rfl) (fun _ _ _ h => h) (by rfl) ?_ ?_
                  rotate_left
                  · intro w' hLat; change Below _ _ _ at hLat; go_simp <;> with_reducible rfl
                  try simp only [Act.put, List.setIfInBounds_toArray, List.set_cons_zero, List.set_cons_succ, List.getElem_toArray, List.getElem_cons_zero, List.getElem_cons_succ]
                  refine Seq.take_lat (i := 14) (v := ?_) rfl (by kernel_rfl) (by kernel_rfl) (by kernel_rfl) (fun _ _ _ h => h) (by rfl) ?_ ?_
                  rotate_left
                  · intro w' hLat; change Below _ _ _ at hLat; go_simp <;> with_reducible rfl
                  try simp only [Act.put, List.setIfInBounds_toArray, List.set_cons_zero, List.set_cons_succ, List.getElem_toArray, List.getElem_cons_zero, List.getElem_cons_succ]
                  refine Seq.take_lat (i := 15) (v := .pointer (some ⟨bX, oX + pt * 2, none⟩)) rfl (by kernel_rfl) (by kernel_rfl) (by kernel_rfl) (fun _ _ _ h => h) (by rfl) (fun w' hLat => exec_idxT 27 25 Try.underlying27 2 infoIm _ _ rfl bX oX k xc pt rfl (by show Value.int .i64 _ = _; rfl) HPT.out) ?_
                  try simp only [Act.put, List.setIfInBounds_toArray, List.set_cons_zero, List.set_cons_succ, List.getElem_toArray, List.getElem_cons_zero, List.getElem_cons_succ]
                  refine Seq.take_lat (i := 16) (v := ?_) rfl (by kernel_rfl) (by kernel_rfl) (by kernel_rfl) (fun _ _ _ h => h) (by rfl) ?_ ?_
                  rotate_left
                  · intro w' hLat; change Below _ _ _ at hLat; go_simp <;> with_reducible rfl
                  try simp only [Act.put, List.setIfInBounds_toArray, List.set_cons_zero, List.set_cons_succ, List.getElem_toArray, List.getElem_cons_zero, List.getElem_cons_succ]
                  refine Seq.take_lat (i := 17) (v := .int .u64 blk) rfl (by kernel_rfl) (by kernel_rfl) (by kernel_rfl) (fun _ _ _ h => h) (by rfl) (fun w' hLat => exec_load1 22 _ _ rfl Try.underlying22 rfl _ rfl _ (HF.out w' (below_to hbd hLat)).2.2.2.1) ?_
                  try simp only [Act.put, List.setIfInBounds_toArray, List.set_cons_zero, List.set_cons_succ, List.getElem_toArray, List.getElem_cons_zero, List.getElem_cons_succ]
                  refine Seq.take_lat (i := 18) (v := ?_) rfl (by kernel_rfl) (by kernel_rfl) (by kernel_rfl) (fun _ _ _ h => h) (by rfl) ?_ ?_
                  rotate_left
                  · intro w' hLat; change Below _ _ _ at hLat; go_simp <;> with_reducible rfl
                  try simp only [Act.put, List.setIfInBounds_toArray, List.set_cons_zero, List.set_cons_succ, List.getElem_toArray, List.getElem_cons_zero, List.getElem_cons_succ]
                  refine Seq.take_lat (i := 19) (v := ?_) rfl (by kernel_rfl) (by kernel_rfl) (by kernel_rfl) (fun _ _ _ h => h) (by rfl) ?_ ?_
                  rotate_left
                  · intro w' hLat; change Below _ _ _ at hLat; go_simp <;> with_reducible rfl
                  try simp only [Act.put, List.setIfInBounds_toArray, List.set_cons_zero, List.set_cons_succ, List.getElem_toArray, List.getElem_cons_zero, List.getElem_cons_succ]
                  refine Seq.take_lat (i := 20) (v := ?_) rfl (by kernel_rfl) (by kernel_rfl) (by kernel_rfl) (fun _ _ _ h => h) (by rfl) ?_ ?_
                  rotate_left
                  · intro w' hLat; change Below _ _ _ at hLat; go_simp <;> with_reducible rfl
                  try simp only [Act.put, List.setIfInBounds_toArray, List.set_cons_zero, List.set_cons_succ, List.getElem_toArray, List.getElem_cons_zero, List.getElem_cons_succ]
                  refine Seq.take_lat (i := 21) (v := ?_) rfl (by kernel_rfl) (by kernel_rfl) (by kernel_rfl) (fun _ _ _ h => h) (by rfl) ?_ ?_
                  rotate_left
                  · intro w' hLat; change Below _ _ _ at hLat; go_simp <;> with_reducible rfl
                  try simp only [Act.put, List.setIfInBounds_toArray, List.set_cons_zero, List.set_cons_succ, List.getElem_toArray, List.getElem_cons_zero, List.getElem_cons_succ]
                  refine Seq.take_lat (i := 22) (v := ?_) rfl (by kernel_rfl) (by kernel_rfl) (by kernel_rfl) (fun _ _ _ h => h) (by rfl) ?_ ?_
                  rotate_left
                  · intro w' hLat; change Below _ _ _ at hLat; go_simp <;> with_reducible rfl
                  try simp only [Act.put, List.setIfInBounds_toArray, List.set_cons_zero, List.set_cons_succ, List.getElem_toArray, List.getElem_cons_zero, List.getElem_cons_succ]
                  refine Seq.take_lat (i := 23) (v := .pointer (some ⟨gc, oc + ii * 1, none⟩)) rfl (by kernel_rfl) (by kernel_rfl) (by kernel_rfl) (fun _ _ _ h => h) (by rfl) (fun w' hLat => exec_idxT 55 27 Try.underlying55 1 (by kernel_rfl) _ _ rfl gc oc cl cvc ii rfl rfl HII.out) ?_
                  try simp only [Act.put, List.setIfInBounds_toArray, List.set_cons_zero, List.set_cons_succ, List.getElem_toArray, List.getElem_cons_zero, List.getElem_cons_succ]
                  refine Seq.take_lat (i := 24) (v := .slice (some ⟨g, p, none⟩) cll ccc) rfl (by kernel_rfl) (by kernel_rfl) (by kernel_rfl) (fun _ _ _ h => h) (by rfl) (fun w' hLat => exec_load1 27 _ _ rfl Try.underlying27 rfl _ rfl _ (by rw [Nat.mul_one]; exact (HF.out w' (below_to hbd hLat)).1)) ?_
                  try simp only [Act.put, List.setIfInBounds_toArray, List.set_cons_zero, List.set_cons_succ, List.getElem_toArray, List.getElem_cons_zero, List.getElem_cons_succ]
                  refine Seq.take_lat (i := 25) (v := ?_) rfl (by kernel_rfl) (by kernel_rfl) (by kernel_rfl) (fun _ _ _ h => h) (by rfl) ?_ ?_
                  rotate_left
                  · intro w' hLat; change Below _ _ _ at hLat; go_simp <;> with_reducible rfl
                  try simp only [Act.put, List.setIfInBounds_toArray, List.set_cons_zero, List.set_cons_succ, List.getElem_toArray, List.getElem_cons_zero, List.getElem_cons_succ]
                  refine Seq.take_lat (i := 26) (v := .pointer (some ⟨g, p + kk * 2, none⟩)) rfl (by kernel_rfl) (by kernel_rfl) (by kernel_rfl) (fun _ _ _ h => h) (by rfl) (fun w' hLat => exec_idxT 27 25 Try.underlying27 2 infoIm _ _ rfl g p cll ccc kk rfl rfl HKK.out) ?_
                  try simp only [Act.put, List.setIfInBounds_toArray, List.set_cons_zero, List.set_cons_succ, List.getElem_toArray, List.getElem_cons_zero, List.getElem_cons_succ]
                  refine Seq.take_lat (i := 27) (v := ?_) rfl (by kernel_rfl) (by kernel_rfl) (by kernel_rfl) (fun _ _ _ h => h) (by rfl) ?_ ?_
                  rotate_left
                  · intro w' hLat; change Below _ _ _ at hLat; go_simp <;> with_reducible rfl
                  try simp only [Act.put, List.setIfInBounds_toArray, List.set_cons_zero, List.set_cons_succ, List.getElem_toArray, List.getElem_cons_zero, List.getElem_cons_succ]
                  refine Seq.take_lat (i := 28) (v := .slice ca1 cl1 cc1) rfl (by kernel_rfl) (by kernel_rfl) (by kernel_rfl) (fun _ _ _ h => h) (by rfl) (fun w' hLat => exec_load1 23 _ _ rfl Try.underlying23 rfl _ rfl _ (HF.out w' (below_to hbd hLat)).2.2.1.1) ?_
                  try simp only [Act.put, List.setIfInBounds_toArray, List.set_cons_zero, List.set_cons_succ, List.getElem_toArray, List.getElem_cons_zero, List.getElem_cons_succ]
                  refine Seq.take_lat (i := 29) (v := .string s) rfl (by kernel_rfl) (by kernel_rfl) (by kernel_rfl) (fun _ _ _ h => h) (by rfl) (fun w' hLat => by rw [← HSS.out]; exact exec_conv (.tmp 129) rfl rfl (HF.out w' (below_to hbd hLat)).2.2.1.2) ?_
                  try simp only [Act.put, List.setIfInBounds_toArray, List.set_cons_zero, List.set_cons_succ, List.getElem_toArray, List.getElem_cons_zero, List.getElem_cons_succ]
                  refine Seq.take_lat (i := 30) (v := ?_) rfl (by kernel_rfl) (by kernel_rfl) (by kernel_rfl) (fun _ _ _ h => h) (by rfl) ?_ ?_
                  rotate_left
                  · intro w' hLat; change Below _ _ _ at hLat; go_simp <;> with_reducible rfl
                  try simp only [Act.put, List.setIfInBounds_toArray, List.set_cons_zero, List.set_cons_succ, List.getElem_toArray, List.getElem_cons_zero, List.getElem_cons_succ]
                  refine Seq.take_lat (i := 31) (v := ?_) rfl (by kernel_rfl) (by kernel_rfl) (by kernel_rfl) (fun _ _ _ h => h) (by rfl) ?_ ?_
                  rotate_left
                  · intro w' hLat; change Below _ _ _ at hLat; go_simp <;> with_reducible rfl
                  try simp only [Act.put, List.setIfInBounds_toArray, List.set_cons_zero, List.set_cons_succ, List.getElem_toArray, List.getElem_cons_zero, List.getElem_cons_succ]
                  refine Seq.take_lat (i := 32) (v := .pointer (some ⟨bX, oX + pt * 2, none⟩)) rfl (by kernel_rfl) (by kernel_rfl) (by kernel_rfl) (fun _ _ _ h => h) (by rfl) (fun w' hLat => exec_idxT 27 25 Try.underlying27 2 infoIm _ _ rfl bX oX k xc pt rfl (by show Value.int .i64 _ = _; rfl) HPT.out) ?_
                  try simp only [Act.put, List.setIfInBounds_toArray, List.set_cons_zero, List.set_cons_succ, List.getElem_toArray, List.getElem_cons_zero, List.getElem_cons_succ]
                  refine Seq.take_lat (i := 33) (v := ?_) rfl (by kernel_rfl) (by kernel_rfl) (by kernel_rfl) (fun _ _ _ h => h) (by rfl) ?_ ?_
                  rotate_left
                  · intro w' hLat; change Below _ _ _ at hLat; go_simp <;> with_reducible rfl
                  try simp only [Act.put, List.setIfInBounds_toArray, List.set_cons_zero, List.set_cons_succ, List.getElem_toArray, List.getElem_cons_zero, List.getElem_cons_succ]
                  refine Seq.take_lat (i := 34) (v := .slice xa1 xl1 xc1) rfl (by kernel_rfl) (by kernel_rfl) (by kernel_rfl) (fun _ _ _ h => h) (by rfl) (fun w' hLat => exec_load1 23 _ _ rfl Try.underlying23 rfl _ rfl _ (HF.out w' (below_to hbd hLat)).2.2.2.2.1.1) ?_
                  try simp only [Act.put, List.setIfInBounds_toArray, List.set_cons_zero, List.set_cons_succ, List.getElem_toArray, List.getElem_cons_zero, List.getElem_cons_succ]
                  refine Seq.take_lat (i := 35) (v := .string s) rfl (by kernel_rfl) (by kernel_rfl) (by kernel_rfl) (fun _ _ _ h => h) (by rfl) (fun w' hLat => by rw [← HSS.out]; exact exec_conv (.tmp 135) rfl rfl (HF.out w' (below_to hbd hLat)).2.2.2.2.1.2) ?_
                  try simp only [Act.put, List.setIfInBounds_toArray, List.set_cons_zero, List.set_cons_succ, List.getElem_toArray, List.getElem_cons_zero, List.getElem_cons_succ]
                  refine Seq.take_lat (i := 36) (v := .bool false) rfl (by kernel_rfl) (by kernel_rfl) (by kernel_rfl) (fun _ _ _ h => h) (by rfl) (fun w' hLat => exec_neT2 _ _ _ rfl s rfl rfl) ?_
                  try simp only [Act.put, List.setIfInBounds_toArray, List.set_cons_zero, List.set_cons_succ, List.getElem_toArray, List.getElem_cons_zero, List.getElem_cons_succ]
                  refine Seq.take_lat (i := 37) (v := ?_) rfl (by kernel_rfl) (by kernel_rfl) (by kernel_rfl) (fun _ _ _ h => h) (by rfl) ?_ ?_
                  rotate_left
                  · intro w' hLat; change Below _ _ _ at hLat; go_simp <;> with_reducible rfl
                  try simp only [Act.put, List.setIfInBounds_toArray, List.set_cons_zero, List.set_cons_succ, List.getElem_toArray, List.getElem_cons_zero, List.getElem_cons_succ]
                  refine Seq.take_lat (i := 38) (v := ?_) rfl (by kernel_rfl) (by kernel_rfl) (by kernel_rfl) (fun _ _ _ h => h) (by rfl) ?_ ?_
                  rotate_left
                  · intro w' hLat; change Below _ _ _ at hLat; go_simp <;> with_reducible rfl
                  try simp only [Act.put, List.setIfInBounds_toArray, List.set_cons_zero, List.set_cons_succ, List.getElem_toArray, List.getElem_cons_zero, List.getElem_cons_succ]
                  refine Seq.take_lat (i := 39) (v := ?_) rfl (by kernel_rfl) (by kernel_rfl) (by kernel_rfl) (fun _ _ _ h => h) (by rfl) ?_ ?_
                  rotate_left
                  · intro w' hLat; change Below _ _ _ at hLat; go_simp <;> with_reducible rfl
                  try simp only [Act.put, List.setIfInBounds_toArray, List.set_cons_zero, List.set_cons_succ, List.getElem_toArray, List.getElem_cons_zero, List.getElem_cons_succ]
                  refine Seq.take_lat (i := 40) (v := ?_) rfl (by kernel_rfl) (by kernel_rfl) (by kernel_rfl) (fun _ _ _ h => h) (by rfl) ?_ ?_
                  rotate_left
                  · intro w' hLat; change Below _ _ _ at hLat; go_simp <;> with_reducible rfl
                  try simp only [Act.put, List.setIfInBounds_toArray, List.set_cons_zero, List.set_cons_succ, List.getElem_toArray, List.getElem_cons_zero, List.getElem_cons_succ]
                  refine Seq.take_lat (i := 41) (v := .pointer (some ⟨bk, ok + pt * 1, none⟩)) rfl (by kernel_rfl) (by kernel_rfl) (by kernel_rfl) (fun _ _ _ h => h) (by rfl) (fun w' hLat => exec_idxT 46 4 Try.underlying46 1 (by kernel_rfl) _ _ rfl bk ok kl kc pt rfl rfl HPK.out) ?_
                  try simp only [Act.put, List.setIfInBounds_toArray, List.set_cons_zero, List.set_cons_succ, List.getElem_toArray, List.getElem_cons_zero, List.getElem_cons_succ]
                  refine Seq.take_lat (i := 42) (v := .bool bb) rfl (by kernel_rfl) (by kernel_rfl) (by kernel_rfl) (fun _ _ _ h => h) (by rfl) (fun w' hLat => exec_load1 4 _ _ rfl Try.underlying4 rfl _ rfl _ (by rw [Nat.mul_one]; exact (HF.out w' (below_to hbd hLat)).2.2.2.2.2)) ?_
                  try simp only [Act.put, List.setIfInBounds_toArray, List.set_cons_zero, List.set_cons_succ, List.getElem_toArray, List.getElem_cons_zero, List.getElem_cons_succ]
                  refine Seq.take_lat (i := 43) (v := ?_) rfl (by kernel_rfl) (by kernel_rfl) (by kernel_rfl) (fun _ _ _ h => h) (by rfl) ?_ ?_
                  rotate_left
                  · intro w' hLat; change Below _ _ _ at hLat; go_simp <;> with_reducible rfl
                  try simp only [Act.put, List.setIfInBounds_toArray, List.set_cons_zero, List.set_cons_succ, List.getElem_toArray, List.getElem_cons_zero, List.getElem_cons_succ]
                  refine Seq.take_lat (i := 44) (v := ?_) rfl (by kernel_rfl) (by kernel_rfl) (by kernel_rfl) (fun _ _ _ h => h) (by rfl) ?_ ?_
                  rotate_left
                  · intro w' hLat; change Below _ _ _ at hLat; go_simp <;> with_reducible rfl
                  try simp only [Act.put, List.setIfInBounds_toArray, List.set_cons_zero, List.set_cons_succ, List.getElem_toArray, List.getElem_cons_zero, List.getElem_cons_succ]
                  refine Seq.take_lat (i := 45) (v := ?_) rfl (by kernel_rfl) (by kernel_rfl) (by kernel_rfl) (fun _ _ _ h => h) (by rfl) ?_ ?_
                  rotate_left
                  · intro w' hLat; change Below _ _ _ at hLat; go_simp <;> with_reducible rfl
                  try simp only [Act.put, List.setIfInBounds_toArray, List.set_cons_zero, List.set_cons_succ, List.getElem_toArray, List.getElem_cons_zero, List.getElem_cons_succ]
                  refine Seq.take_lat (i := 46) (v := .pointer (some ⟨gc, oc + ii * 1, none⟩)) rfl (by kernel_rfl) (by kernel_rfl) (by kernel_rfl) (fun _ _ _ h => h) (by rfl) (fun w' hLat => exec_idxT 55 27 Try.underlying55 1 (by kernel_rfl) _ _ rfl gc oc cl cvc ii rfl rfl HII.out) ?_
                  try simp only [Act.put, List.setIfInBounds_toArray, List.set_cons_zero, List.set_cons_succ, List.getElem_toArray, List.getElem_cons_zero, List.getElem_cons_succ]
                  refine Seq.take_lat (i := 47) (v := .slice (some ⟨g, p, none⟩) cll ccc) rfl (by kernel_rfl) (by kernel_rfl) (by kernel_rfl) (fun _ _ _ h => h) (by rfl) (fun w' hLat => exec_load1 27 _ _ rfl Try.underlying27 rfl _ rfl _ (by rw [Nat.mul_one]; exact (HF.out w' (below_to hbd hLat)).1)) ?_
                  try simp only [Act.put, List.setIfInBounds_toArray, List.set_cons_zero, List.set_cons_succ, List.getElem_toArray, List.getElem_cons_zero, List.getElem_cons_succ]
                  refine Seq.take_lat (i := 48) (v := ?_) rfl (by kernel_rfl) (by kernel_rfl) (by kernel_rfl) (fun _ _ _ h => h) (by rfl) ?_ ?_
                  rotate_left
                  · intro w' hLat; change Below _ _ _ at hLat; go_simp <;> with_reducible rfl
                  try simp only [Act.put, List.setIfInBounds_toArray, List.set_cons_zero, List.set_cons_succ, List.getElem_toArray, List.getElem_cons_zero, List.getElem_cons_succ]
                  refine Seq.take_lat (i := 49) (v := .int .i64 ((cll : Int) - 1)) rfl (by kernel_rfl) (by kernel_rfl) (by kernel_rfl) (fun _ _ _ h => h) (by rfl) (fun w' hLat => exec_subE _ _ _ rfl (cll : Int) 1 ((cll : Int) - 1) rfl HC9.out rfl rfl) ?_
                  try simp only [Act.put, List.setIfInBounds_toArray, List.set_cons_zero, List.set_cons_succ, List.getElem_toArray, List.getElem_cons_zero, List.getElem_cons_succ]
                  refine Seq.take_lat (i := 50) (v := .bool bb) rfl (by kernel_rfl) (by kernel_rfl) (by kernel_rfl) (fun _ _ _ h => h) (by rfl) (fun w' hLat => exec_eqB _ _ _ rfl (kk : Int) ((cll : Int) - 1) bb HBB.out rfl rfl) ?_
                  try simp only [Act.put, List.setIfInBounds_toArray, List.set_cons_zero, List.set_cons_succ, List.getElem_toArray, List.getElem_cons_zero, List.getElem_cons_succ]
                  refine Seq.take_lat (i := 51) (v := .bool false) rfl (by kernel_rfl) (by kernel_rfl) (by kernel_rfl) (fun _ _ _ h => h) (by rfl) (fun w' hLat => exec_neB _ _ _ rfl bb rfl rfl) ?_
                  try simp only [Act.put, List.setIfInBounds_toArray, List.set_cons_zero, List.set_cons_succ, List.getElem_toArray, List.getElem_cons_zero, List.getElem_cons_succ]
                  refine Seq.take_lat (i := 52) (v := ?_) rfl (by kernel_rfl) (by kernel_rfl) (by kernel_rfl) (fun _ _ _ h => h) (by rfl) ?_ ?_
                  rotate_left
                  · intro w' hLat; change Below _ _ _ at hLat; go_simp <;> with_reducible rfl
                  try simp only [Act.put, List.setIfInBounds_toArray, List.set_cons_zero, List.set_cons_succ, List.getElem_toArray, List.getElem_cons_zero, List.getElem_cons_succ]
                  refine wpAnyH_done (by kernel_rfl) ?_ _
                  have HD : Box (Below x6.heap.size x6 wd) := ⟨below_to HW.out hbd⟩
                  clear hd hbd
                  go_wp2
                  go_roundw
                  case rel => exact ⟨kk + 1, HKK.out, by go_num, by rw [show ofs + (kk + 1) = pt + 1 by have := HPE.out; omega]; go_num, HD⟩
                  case measure => simp [intOf]; have := HKK.out; omega
                · have hk31 : decide ((kk : Int) < (cll : Int)) = false := by simp; omega
                  have HE : Box (offs (chS L).1 (ii + 1) = ofs + kk) := ⟨by rw [HOI.out]; omega⟩
                  have hw8 : IntKind.i64.wrap ((ii : Int) + 1) = ((ii + 1 : Nat) : Int) := by rw [IntKind.wrap_i64]; have := HCN.out.2; omega
                  go_wp2_with (refine atIdx 55 ?_; refine wpList_run rfl _ _ (exec_idxT 55 27 Try.underlying55 1 (by kernel_rfl) _ _ rfl gc oc cl cvc ii rfl rfl HII.out) ?_; rw [Nat.mul_one])
                  exact ⟨⟨ii + 1, HII.out, by go_num, by rw [HE.out]; first | rfl | simp, HW⟩, by simp [intOf]; have := HII.out; omega⟩
            · obtain rfl : ii = cl := by omega
              have hi1 : decide ((ii : Int) < (ii : Int)) = false := by simp
              have heq : offs (chS L).1 ii = k := by
                rw [← HO.out.1, offs_all, ← HO.out.2, HL.out.2]
              rw [heq]
              clear heq
              go_wp2
              go_ret
              exact ⟨rfl, (HX6.out wr HQ.out).2⟩
set_option maxRecDepth 20000 in
set_option maxHeartbeats 1000000 in
theorem recordLasts_far (a : Option Addr) (n cap : Nat) (ka : Option Addr) (kl kc : Nat) (w : World) (hf : ¬ n ≤ 20 ∨ n ≤ 20 ∧ kl < n) (hnm : n ≤ maxLen) (hkm : kl ≤ maxLen) :
    Calls Try.prog 7 #[.slice a n cap, .slice ka kl kc] w fun e w' => e = .returned (.bool true) ∧ Below w.heap.size w w' := by
  unfold maxLen at hkm hnm
  rcases hf with hf | ⟨hf, hf2⟩
  · have hg1 : (20 : Int) < (n : Int) := by omega
    go_enter Try.func7, Try.ntmps7
    go_wp2_with (go_at_call 8; refine (awake_any _).mono ?_; rintro e x1 ⟨rfl, hb⟩; have H1 : Box (Below w.heap.size w x1) := ⟨hb⟩; clear hb)
    go_ret
    exact ⟨rfl, H1.out⟩
  · have hg1 : ¬ (20 : Int) < (n : Int) := by omega
    have hg2 : kl < n := hf2
    have hg3 : ¬ 20 < n := by omega
    clear hf hf2 hnm hkm hg1
    go_enter Try.func7, Try.ntmps7
    go_wp2_with (go_at_call 8; refine (awake_any _).mono ?_; rintro e x1 ⟨rfl, hb⟩; have H1 : Box (Below w.heap.size w x1) := ⟨hb⟩; clear hb)
    go_ret
    exact ⟨rfl, H1.out⟩
theorem recordLasts_walk (a : Option Addr) (cap : Nat) (M : List Im) (ka : Option Addr) (kl kc : Nat) (K : List Bool) (W : World) (h : Imgs W a M) (hm : M.length ≤ maxLen) (hK : Bools W ka kl K ∧ kl ≤ maxLen) :
    Calls Try.prog 7 #[.slice a M.length cap, .slice ka kl kc] W fun e w' => e = .returned (.bool true) ∧ Below W.heap.size W w' := by
  by_cases h1 : M.length ≤ 20
  · by_cases h2 : M.length ≤ kl
    · exact recordLasts_core a cap M ka kl kc K W h hK.1 h1 h2 hK.2
    · exact recordLasts_far a M.length cap ka kl kc W (.inr ⟨h1, by omega⟩) hm hK.2
  · exact recordLasts_far a M.length cap ka kl kc W (.inl h1) hm hK.2
end Go.Proofs.Ytgdjdlakndajgaa
