/-
  The law's modelOf, and the reference's Same.
-/
import Derived.Test.YtgdjdlakndajgaaR7
import Derived.Test.YtgdjdlakndajgaaRC
namespace Go.Proofs.Ytgdjdlakndajgaa
set_option linter.unusedVariables false
open Go.RowKit Plain

/-- One thing appended to a row of one's own, in a statement whose order is drawn. -/
theorem wp_appR {o : Oper} {act : Act} {w : World} {K : Act → World → Prop} {Q : Exit → Act → World → Prop} (t e : TypeId) (ht : Try.prog.underlying t = some (.slice e)) (sz bytes : Nat) (z : Value) (hi : (Try.prog.info? e).map (fun i => (i.zero, i.size, i.bytes)) = some (some z, sz, bytes)) (hzs : z.cells.size = sz) (hsz : 0 < sz) (s x : Operand)
    (ho : o.op = .call { callee := .builtin .append, args := #[s, x], argTypes := #[t, t] }) (B n : Nat) (v : Value) (xs cs : List Value) (wn : World) (hs : act.eval s = v) (hx : act.eval x = .slice (some ⟨wn.heap.size, 0, none⟩) 1 1) (hw : w = wn.alloc (.cells cs.toArray e)) (hown : wn.ownsRow B e sz v n xs) (hcs : cs.length = sz) (h1 : ∀ u ∈ cs, u.oneCell' = true) (hn : n ≤ 1000000) (hby : bytes ≤ 1000) (hB : B ≤ wn.heap.size)
    (h : ∀ v' w', w'.ownsRow B e sz v' (n + 1) (xs ++ cs) → wn.grownBy w' v.ownBlock → K (act.put o.dst v') w') : Oper.wp Try.prog o act w K Q := by
  obtain ⟨i0, hi1, hz0, hz1, hz2⟩ := info_parts hi
  subst hw
  have hm : (n + 1) * bytes ≤ 140737488355328 := Nat.le_trans (Nat.mul_le_mul (show n + 1 ≤ 1000001 by omega) hby) (by decide)
  obtain ⟨v', w', hr, h2, h3, _⟩ := run_append_own (P := Try.prog) _ B t o.type e i0 z sz bytes ht hi1 hz0 hz1 hz2 hzs hsz v n xs (own_to hown ((Below.refl _ _).alloc (Nat.le_refl _) _)) ⟨wn.heap.size, 0, none⟩ 1 1 cs (by rw [hcs, Nat.one_mul]) (news_new wn cs e) h1 (by unfold maxLen; omega) hm (by simp; omega)
  unfold Oper.wp execOp
  simp only [ho, resolve, invoke, builtin, Sem.run_bind, Sem.run_pure, Result.andThen_ok, List.map_toArray, List.map_cons, List.map_nil, hs, hx, hr]
  exact h v' w' h2 (grown_alloc h3)
/-- So far. -/
structure MoK (w wr : World) (M : List Im) (k : Nat) (v : Value) : Prop where
  row : wr.ownsRow w.heap.size 37 2 v k (((M.map pl).take k).map ic).flatten
  bel : Below w.heap.size w wr
theorem MoK.step {w wr wd w' : World} {M : List Im} {k : Nat} {v v' : Value} (h : MoK w wr M k v) (hk : k < M.length) (hb : Below wr.heap.size wr wd) (ho : w'.ownsRow w.heap.size 37 2 v' (k + 1) ((((M.map pl).take k).map ic).flatten ++ ic (pl M[k]))) (hg : wd.grownBy w' v.ownBlock) : MoK w w' M (k + 1) v' := by
  have hk2 : k < (M.map pl).length := by simpa using hk
  refine ⟨?_, (below_to h.bel hb).grown hg (below_to h.bel hb).size (fun j hj => (own_blk (own_to h.row hb) j hj).1)⟩
  rw [List.take_succ_eq_append_getElem hk2]
  simp only [List.map_append, List.map_cons, List.map_nil, List.flatten_append, List.getElem_map, List.flatten_cons, List.flatten_nil, List.append_nil]
  exact ho
set_option maxRecDepth 20000 in
set_option maxHeartbeats 2000000 in
theorem modelOf_any (a : Option Addr) (cap : Nat) (M : List Im) (w : World) (h : Imgs w a M) (hl : M.length ≤ 1000) :
    Calls Try.prog 17 #[.slice a M.length cap] w fun e w' => ∃ v, e = .returned v ∧ MoK w w' M M.length v := by
  have HM : Box (∀ x, Below w.heap.size w x → Imgs x a M) := ⟨fun x hx => h.below hx⟩
  clear h
  go_enter Try.func17, Try.ntmps17
  go_wp2
  go_loopw [3, 4] (fun v i wr => ∃ k : Nat, k ≤ M.length ∧ i = .int .i64 (k : Int) ∧ Box (MoK w wr M k v)) (fun _ i _ => M.length - (intOf i).toNat)
  case atStart => exact ⟨0, Nat.zero_le _, rfl, ⟨⟨World.ownsRow_nil _ _ _ _, Below.refl _ _⟩⟩⟩
  case round =>
    obtain ⟨k, hk, rfl, HG⟩ := hrel
    by_cases hlt : k < M.length
    · have hlt1 : decide ((k : Int) < (M.length : Int)) = true := by simp; omega
      obtain ⟨b, o, hae, hbl, hr⟩ := (HM.out w (Below.refl _ _)).tb (by omega)
      subst hae
      have hby := (HM.out w (Below.refl _ _)).byt M[k] (List.getElem_mem hlt)
      have HML : Box (k < M.length) := ⟨hlt⟩
      have HST : Box (∀ wd w' v', Below wr.heap.size wr wd → w'.ownsRow w.heap.size 37 2 v' (k + 1) ((((M.map pl).take k).map ic).flatten ++ ic (pl M[k])) → wd.grownBy w' u3.ownBlock → MoK w w' M (k + 1) v') := ⟨fun wd w' v' h1 h2 h3 => HG.out.step hlt h1 h2 h3⟩
      obtain ⟨⟨blk, ba, bl, bc, bs⟩, hmm⟩ : ∃ m, M[k] = m := ⟨_, rfl⟩
      have hrk := hr k hlt
      rw [hmm] at hby hrk HST
      obtain ⟨s, HS⟩ : ∃ s, Box (strOfNums bs = s) := ⟨_, ⟨rfl⟩⟩
      have HST2 : Box (∀ wd w' v', Below wr.heap.size wr wd → w'.ownsRow w.heap.size 37 2 v' (k + 1) ((((M.map pl).take k).map ic).flatten ++ [.int .u64 blk, .string s]) → wd.grownBy w' u3.ownBlock → MoK w w' M (k + 1) v') := ⟨by rw [← HS.out]; exact HST.out⟩
      have HR : Box (∀ x, Below w.heap.size w x → x.cell? ⟨b, o + k * 2, none⟩ = some (.int .u64 blk) ∧ x.cell? ⟨b, o + k * 2 + 1, none⟩ = some (.slice ba bl bc) ∧ Bytes x ba bl bs) := ⟨fun x hx => ⟨(hx.cell hbl).trans (hrk 0 _ rfl), (hx.cell hbl).trans (hrk 1 _ rfl), hby.1.below hx⟩⟩
      have HOW : Box (∀ x, Below wr.heap.size wr x → x.ownsRow w.heap.size 37 2 u3 k (((M.map pl).take k).map ic).flatten ∧ w.heap.size ≤ x.heap.size) := ⟨fun x hx => ⟨own_to HG.out.row hx, Nat.le_trans HG.out.bel.size hx.size⟩⟩
      have HL2 : Box (k ≤ 1000000) := ⟨by omega⟩
      have hw4 : IntKind.i64.wrap ((k : Int) + 1) = ((k + 1 : Nat) : Int) := by rw [IntKind.wrap_i64]; omega
      clear hr hby hmm hrk HST
      go_upto_region 5 with fail
      refine begin_keep (S := fun x => Below w.heap.size w x) (by kernel_rfl) (fun wd hwd => ?_)
      have hS : Below w.heap.size w wd := by rw [hwd]; exact HG.out.bel.drew
      have hbd : Below wr.heap.size wr wd := by rw [hwd]; exact (Below.refl _ _).drew
      clear hwd
      refine take_s (i := 0) (v := ?_) rfl (by kernel_rfl) (by kernel_rfl) (by kernel_rfl) (fun _ _ _ h => h) (by rfl) ?_ hS ?_
      rotate_left
      · intro w' hLat; clear hLat; go_simp <;> with_reducible rfl
      try simp only [Act.put, List.setIfInBounds_toArray, List.set_cons_zero, List.set_cons_succ, List.getElem_toArray, List.getElem_cons_zero]
      refine take_s (i := 1) (v := ?_) rfl (by kernel_rfl) (by kernel_rfl) (by kernel_rfl) (fun _ _ _ h => h) (by rfl) ?_ hS ?_
      rotate_left
      · intro w' hLat; clear hLat; go_simp <;> with_reducible rfl
      try simp only [Act.put, List.setIfInBounds_toArray, List.set_cons_zero, List.set_cons_succ, List.getElem_toArray, List.getElem_cons_zero, List.getElem_cons_succ]
      refine take_s (i := 2) (v := ?_) rfl (by kernel_rfl) (by kernel_rfl) (by kernel_rfl) (fun _ _ _ h => h) (by rfl) ?_ hS ?_
      rotate_left
      · intro w' hLat; clear hLat; go_simp <;> with_reducible rfl
      try simp only [Act.put, List.setIfInBounds_toArray, List.set_cons_zero, List.set_cons_succ, List.getElem_toArray, List.getElem_cons_zero, List.getElem_cons_succ]
      refine take_s (i := 3) (v := .pointer (some ⟨b, o + k * 2, none⟩)) rfl (by kernel_rfl) (by kernel_rfl) (by kernel_rfl) (fun _ _ _ h => h) (by rfl) (fun w' hLat => exec_idxT 27 25 Try.underlying27 2 infoIm _ _ rfl b o M.length cap k rfl rfl HML.out) hS ?_
      try simp only [Act.put, List.setIfInBounds_toArray, List.set_cons_zero, List.set_cons_succ, List.getElem_toArray, List.getElem_cons_zero, List.getElem_cons_succ]
      refine take_s (i := 4) (v := ?_) rfl (by kernel_rfl) (by kernel_rfl) (by kernel_rfl) (fun _ _ _ h => h) (by rfl) ?_ hS ?_
      rotate_left
      · intro w' hLat; clear hLat; go_simp <;> with_reducible rfl
      try simp only [Act.put, List.setIfInBounds_toArray, List.set_cons_zero, List.set_cons_succ, List.getElem_toArray, List.getElem_cons_zero, List.getElem_cons_succ]
      refine take_s (i := 5) (v := .int .u64 blk) rfl (by kernel_rfl) (by kernel_rfl) (by kernel_rfl) (fun _ _ _ h => h) (by rfl) (fun w' hLat => exec_load1 22 _ _ rfl Try.underlying22 rfl _ rfl _ (HR.out w' hLat).1) hS ?_
      try simp only [Act.put, List.setIfInBounds_toArray, List.set_cons_zero, List.set_cons_succ, List.getElem_toArray, List.getElem_cons_zero, List.getElem_cons_succ]
      refine take_s (i := 6) (v := ?_) rfl (by kernel_rfl) (by kernel_rfl) (by kernel_rfl) (fun _ _ _ h => h) (by rfl) ?_ hS ?_
      rotate_left
      · intro w' hLat; clear hLat; go_simp <;> with_reducible rfl
      try simp only [Act.put, List.setIfInBounds_toArray, List.set_cons_zero, List.set_cons_succ, List.getElem_toArray, List.getElem_cons_zero, List.getElem_cons_succ]
      refine take_s (i := 7) (v := ?_) rfl (by kernel_rfl) (by kernel_rfl) (by kernel_rfl) (fun _ _ _ h => h) (by rfl) ?_ hS ?_
      rotate_left
      · intro w' hLat; clear hLat; go_simp <;> with_reducible rfl
      try simp only [Act.put, List.setIfInBounds_toArray, List.set_cons_zero, List.set_cons_succ, List.getElem_toArray, List.getElem_cons_zero, List.getElem_cons_succ]
      refine take_s (i := 8) (v := .pointer (some ⟨b, o + k * 2, none⟩)) rfl (by kernel_rfl) (by kernel_rfl) (by kernel_rfl) (fun _ _ _ h => h) (by rfl) (fun w' hLat => exec_idxT 27 25 Try.underlying27 2 infoIm _ _ rfl b o M.length cap k rfl rfl HML.out) hS ?_
      try simp only [Act.put, List.setIfInBounds_toArray, List.set_cons_zero, List.set_cons_succ, List.getElem_toArray, List.getElem_cons_zero, List.getElem_cons_succ]
      refine take_s (i := 9) (v := ?_) rfl (by kernel_rfl) (by kernel_rfl) (by kernel_rfl) (fun _ _ _ h => h) (by rfl) ?_ hS ?_
      rotate_left
      · intro w' hLat; clear hLat; go_simp <;> with_reducible rfl
      try simp only [Act.put, List.setIfInBounds_toArray, List.set_cons_zero, List.set_cons_succ, List.getElem_toArray, List.getElem_cons_zero, List.getElem_cons_succ]
      refine take_s (i := 10) (v := .slice ba bl bc) rfl (by kernel_rfl) (by kernel_rfl) (by kernel_rfl) (fun _ _ _ h => h) (by rfl) (fun w' hLat => exec_load1 23 _ _ rfl Try.underlying23 rfl _ rfl _ (HR.out w' hLat).2.1) hS ?_
      try simp only [Act.put, List.setIfInBounds_toArray, List.set_cons_zero, List.set_cons_succ, List.getElem_toArray, List.getElem_cons_zero, List.getElem_cons_succ]
      refine take_s (i := 11) (v := .string s) rfl (by kernel_rfl) (by kernel_rfl) (by kernel_rfl) (fun _ _ _ h => h) (by rfl) (fun w' hLat => by rw [← HS.out]; exact exec_conv (.tmp 21) rfl rfl (HR.out w' hLat).2.2) hS ?_
      try simp only [Act.put, List.setIfInBounds_toArray, List.set_cons_zero, List.set_cons_succ, List.getElem_toArray, List.getElem_cons_zero, List.getElem_cons_succ]
      refine take_s (i := 12) (v := .agg #[.int .u64 blk, .string s]) rfl (by kernel_rfl) (by kernel_rfl) (by kernel_rfl) (fun _ _ _ h => h) (by rfl) (fun w' hLat => exec_built 37 [(0, .tmp 16), (1, .tmp 22)] rfl [(0, .int .u64 blk), (1, .string s)] rfl _ (built_I _ _)) hS ?_
      try simp only [Act.put, List.setIfInBounds_toArray, List.set_cons_zero, List.set_cons_succ, List.getElem_toArray, List.getElem_cons_zero, List.getElem_cons_succ]
      refine one_keep (i := 13) (by kernel_rfl) ?_
      refine keep_step rfl (by rfl) ?_
      go_simp
      have hS2 := hS
      have hS : Below w.heap.size w (wd.alloc (.cells #[.int .u64 blk, .string s] 37)) := hS2.alloc hS2.size _
      refine ⟨hS, ?_⟩
      try simp only [Act.put, List.setIfInBounds_toArray, List.set_cons_zero, List.set_cons_succ, List.getElem_toArray, List.getElem_cons_zero, List.getElem_cons_succ]
      refine one_keep (i := 14) (by kernel_rfl) ?_
      refine keep_step rfl (by rfl) ?_
      refine wp_appR 53 37 Try.underlying53 2 24 _ infI rfl (by decide) (.tmp 11) (.tmp 24) rfl w.heap.size k u3 (((M.map pl).take k).map ic).flatten [.int .u64 blk, .string s] wd rfl rfl rfl (HOW.out wd hbd).1 rfl (by simp [Value.oneCell']) HL2.out (by decide) (HOW.out wd hbd).2 ?_
      intro v5 x5 hown hgr
      have H5 : Box (MoK w x5 M (k + 1) v5) := ⟨HST2.out wd x5 v5 hbd hown hgr⟩
      have hS : Below w.heap.size w x5 := H5.out.bel
      refine ⟨hS, ?_⟩
      try simp only [Act.put, List.setIfInBounds_toArray, List.set_cons_zero, List.set_cons_succ, List.getElem_toArray, List.getElem_cons_zero, List.getElem_cons_succ]
      refine take_s (i := 15) (v := ?_) rfl (by kernel_rfl) (by kernel_rfl) (by kernel_rfl) (fun _ _ _ h => h) (by rfl) ?_ hS ?_
      rotate_left
      · intro w' hLat; clear hLat; go_simp <;> with_reducible rfl
      try simp only [Act.put, List.setIfInBounds_toArray, List.set_cons_zero, List.set_cons_succ, List.getElem_toArray, List.getElem_cons_zero, List.getElem_cons_succ]
      refine wpAnyH_done (by kernel_rfl) ?_ _
      clear hS2 hS hown hgr hbd
      go_wp2
      go_roundw
      case rel => exact ⟨k + 1, HML.out, by go_num, H5⟩
      case measure => simp [intOf]; have := HML.out; omega
    · obtain rfl : k = M.length := by omega
      have hlt1 : decide ((M.length : Int) < (M.length : Int)) = false := by simp
      go_wp2
      go_ret
      exact ⟨_, rfl, HG.out⟩
set_option maxHeartbeats 1000000 in
theorem same_any (a b : Option Addr) (ca cb : Nat) (P : List (Int × List Int)) (w : World) (ha : Tb w a 2 ic P) (hb : Tb w b 2 ic P) (hl : P.length ≤ 1000) :
    Calls Try.prog 20 #[.slice a P.length ca, .slice b P.length cb] w fun e w' => e = .returned (.bool true) ∧ Below w.heap.size w w' := by
  have HA : Box (∀ x, Below w.heap.size w x → Tb x a 2 ic P ∧ Tb x b 2 ic P) := ⟨fun x hx => ⟨ha.below hx, hb.below hx⟩⟩
  clear ha hb
  go_enter Try.func20, Try.ntmps20
  go_wp2
  go_loopw [5] (fun i wr => ∃ k : Nat, k ≤ P.length ∧ i = .int .i64 (k : Int) ∧ Box (Below w.heap.size w wr)) (fun i _ => P.length - (intOf i).toNat)
  case atStart => exact ⟨0, Nat.zero_le _, rfl, ⟨Below.refl _ _⟩⟩
  case round =>
    obtain ⟨k, hk, rfl, HG⟩ := hrel
    by_cases hlt : k < P.length
    · have hlt1 : decide ((k : Int) < (P.length : Int)) = true := by simp; omega
      have hT := HA.out wr HG.out
      obtain ⟨b1, o1, e1, hbl1, hr1⟩ := hT.1 (by omega)
      obtain ⟨b2, o2, e2, hbl2, hr2⟩ := hT.2 (by omega)
      subst e1
      subst e2
      have HML : Box (k < P.length) := ⟨hlt⟩
      have h1 := hr1 k hlt
      have h2 := hr2 k hlt
      obtain ⟨⟨blk, L⟩, hmm⟩ : ∃ m, P[k] = m := ⟨_, rfl⟩
      rw [hmm] at h1 h2
      obtain ⟨s, hs⟩ : ∃ s, strOfNums L = s := ⟨_, rfl⟩
      have HR : Box (∀ x, Below wr.heap.size wr x → x.rangeAt b1 (o1 + k * 2) [.int .u64 blk, .string s] ∧ x.rangeAt b2 (o2 + k * 2) [.int .u64 blk, .string s]) := ⟨fun x hx => ⟨hs ▸ range_below hx h1 hbl1, hs ▸ range_below hx h2 hbl2⟩⟩
      have hw4 : IntKind.i64.wrap ((k : Int) + 1) = ((k + 1 : Nat) : Int) := by rw [IntKind.wrap_i64]; omega
      clear hr1 hr2 h1 h2 hmm hs hT
      go_upto_region 6 with fail
      refine Seq.begin_any (by kernel_rfl) (fun wd hd => ?_)
      have hbd : Below wr.heap.size wr wd := hd.mono (Nat.le_refl _)
      refine Seq.take_lat (i := 0) (v := ?_) rfl (by kernel_rfl) (by kernel_rfl) (by kernel_rfl) (fun _ _ _ h => h) (by rfl) ?_ ?_
      rotate_left
      · intro w' hLat; change Below _ _ _ at hLat; go_simp <;> with_reducible rfl
      try simp only [Act.put, List.setIfInBounds_toArray, List.set_cons_zero, List.set_cons_succ, List.getElem_toArray, List.getElem_cons_zero]
      refine Seq.take_lat (i := 1) (v := ?_) rfl (by kernel_rfl) (by kernel_rfl) (by kernel_rfl) (fun _ _ _ h => h) (by rfl) ?_ ?_
      rotate_left
      · intro w' hLat; change Below _ _ _ at hLat; go_simp <;> with_reducible rfl
      try simp only [Act.put, List.setIfInBounds_toArray, List.set_cons_zero, List.set_cons_succ, List.getElem_toArray, List.getElem_cons_zero, List.getElem_cons_succ]
      refine Seq.take_lat (i := 2) (v := .pointer (some ⟨b1, o1 + k * 2, none⟩)) rfl (by kernel_rfl) (by kernel_rfl) (by kernel_rfl) (fun _ _ _ h => h) (by rfl) (fun w' hLat => exec_idxT 53 37 Try.underlying53 2 infoI _ _ rfl b1 o1 P.length ca k rfl rfl HML.out) ?_
      try simp only [Act.put, List.setIfInBounds_toArray, List.set_cons_zero, List.set_cons_succ, List.getElem_toArray, List.getElem_cons_zero, List.getElem_cons_succ]
      refine Seq.take_lat (i := 3) (v := .agg #[.int .u64 blk, .string s]) rfl (by kernel_rfl) (by kernel_rfl) (by kernel_rfl) (fun _ _ _ h => h) (by rfl) (fun w' hLat => exec_load_mid 37 _ _ rfl Try.underlying37 rfl b1 (o1 + k * 2) rfl [.int .u64 blk, .string s] infoI (HR.out w' (below_to hbd hLat)).1) ?_
      try simp only [Act.put, List.setIfInBounds_toArray, List.set_cons_zero, List.set_cons_succ, List.getElem_toArray, List.getElem_cons_zero, List.getElem_cons_succ]
      refine Seq.take_lat (i := 4) (v := ?_) rfl (by kernel_rfl) (by kernel_rfl) (by kernel_rfl) (fun _ _ _ h => h) (by rfl) ?_ ?_
      rotate_left
      · intro w' hLat; change Below _ _ _ at hLat; go_simp <;> with_reducible rfl
      try simp only [Act.put, List.setIfInBounds_toArray, List.set_cons_zero, List.set_cons_succ, List.getElem_toArray, List.getElem_cons_zero, List.getElem_cons_succ]
      refine Seq.take_lat (i := 5) (v := ?_) rfl (by kernel_rfl) (by kernel_rfl) (by kernel_rfl) (fun _ _ _ h => h) (by rfl) ?_ ?_
      rotate_left
      · intro w' hLat; change Below _ _ _ at hLat; go_simp <;> with_reducible rfl
      try simp only [Act.put, List.setIfInBounds_toArray, List.set_cons_zero, List.set_cons_succ, List.getElem_toArray, List.getElem_cons_zero, List.getElem_cons_succ]
      refine Seq.take_lat (i := 6) (v := .pointer (some ⟨b2, o2 + k * 2, none⟩)) rfl (by kernel_rfl) (by kernel_rfl) (by kernel_rfl) (fun _ _ _ h => h) (by rfl) (fun w' hLat => exec_idxT 53 37 Try.underlying53 2 infoI _ _ rfl b2 o2 P.length cb k rfl rfl HML.out) ?_
      try simp only [Act.put, List.setIfInBounds_toArray, List.set_cons_zero, List.set_cons_succ, List.getElem_toArray, List.getElem_cons_zero, List.getElem_cons_succ]
      refine Seq.take_lat (i := 7) (v := .agg #[.int .u64 blk, .string s]) rfl (by kernel_rfl) (by kernel_rfl) (by kernel_rfl) (fun _ _ _ h => h) (by rfl) (fun w' hLat => exec_load_mid 37 _ _ rfl Try.underlying37 rfl b2 (o2 + k * 2) rfl [.int .u64 blk, .string s] infoI (HR.out w' (below_to hbd hLat)).2) ?_
      try simp only [Act.put, List.setIfInBounds_toArray, List.set_cons_zero, List.set_cons_succ, List.getElem_toArray, List.getElem_cons_zero, List.getElem_cons_succ]
      refine Seq.take_lat (i := 8) (v := .bool false) rfl (by kernel_rfl) (by kernel_rfl) (by kernel_rfl) (fun _ _ _ h => h) (by rfl) (fun w' hLat => exec_neI _ _ _ rfl blk s rfl rfl) ?_
      try simp only [Act.put, List.setIfInBounds_toArray, List.set_cons_zero, List.set_cons_succ, List.getElem_toArray, List.getElem_cons_zero, List.getElem_cons_succ]
      refine wpAnyH_done (by kernel_rfl) ?_ _
      have HD : Box (Below w.heap.size w wd) := ⟨below_to HG.out hbd⟩
      clear hd hbd
      go_wp2
      go_roundw
      case rel => exact ⟨k + 1, HML.out, by go_num, HD⟩
      case measure => simp [intOf]; have := HML.out; omega
    · obtain rfl : k = P.length := by omega
      have hlt1 : decide ((P.length : Int) < (P.length : Int)) = false := by simp
      go_wp2
      go_ret
      exact ⟨rfl, HG.out⟩
end Go.Proofs.Ytgdjdlakndajgaa
