/-
  The reference's Put and Get of records; the law's recordOf; == on the reference's records. And what follows it.
-/
import Derived.Laws.IdiomStrings
import Derived.Test.YteaejodihmnbcaaDoorQ20
import Derived.Test.YteaejodihmnbcaaDoorQ10
import Derived.Test.YteaejodihmnbcaaDoorQ15
import Derived.Test.YteaejodihmnbcaaDoorQ05
import Derived.Test.YteaejodihmnbcaaDoorQ19
namespace Go.Proofs.YteaejodihmnbcaaDoor
set_option maxRecDepth 100000
set_option linter.unusedVariables false
open Go.RowKit Plain
theorem built_I (b : Int) (s : ByteArray) : Tryd.prog.built 60 [(0, .int .u64 b), (1, .string s)] = some #[.int .u64 b, .string s] := by kernel_rfl
theorem infoI : (Tryd.prog.info? 60).map (·.size) = some 2 := by kernel_rfl
theorem infI : (Tryd.prog.info? 60).map (fun i => (i.zero, i.size, i.bytes)) = some (some (.agg #[.int .u64 0, .string ByteArray.empty]), 2, 24) := by kernel_rfl
theorem equalIn_str (d : Nat) (s : ByteArray) (w : World) : (Op.equalIn (d + 1) 9 (.string s) (.string s)).run Tryd.prog w = .ok true w := by
  have hb : (s == s) = true := by first | exact beq_self_eq_true s | (cases s; show (_ == _) = true; exact beq_self_eq_true _) | (show (s.data == s.data) = true; exact beq_self_eq_true _)
  simp [Op.equalIn, run_underlying Tryd.underlying9, hb]
theorem fieldsI : (Tryd.prog.fieldsOf 60).toList.map (fun f => (f.name != "_", f.type, f.offset)) = [(true, 33, 0), (true, 9, 1)] := by kernel_rfl
theorem equalIn_I (d : Nat) (b : Int) (s : ByteArray) (w : World) : (Op.equalIn (d + 2) 60 (.agg #[.int .u64 b, .string s]) (.agg #[.int .u64 b, .string s])).run Tryd.prog w = .ok true w := by
  rw [show d + 2 = (d + 1) + 1 from rfl, run_equalIn_struct w (d + 1) 60 _ _ (by kernel_rfl) (by kernel_rfl)]
  have hF := fieldsI
  generalize (Tryd.prog.fieldsOf 60).toList = fs at hF
  have hl : fs.length = 2 := by simpa using congrArg List.length hF
  match fs, hl, hF with
  | [f0, f1], _, hF =>
    simp only [List.map_cons, List.map_nil, List.cons.injEq, Prod.mk.injEq, and_true] at hF
    obtain ⟨⟨a0, b0, c0⟩, ⟨a1, b1, c1⟩⟩ := hF
    have i := run_equalIn_int (P := Tryd.prog) w d 33 .u64 .u64 b b Tryd.underlying33
    have i' : (Op.equalIn (d + 1) 33 (.int .u64 b) (.int .u64 b)).run Tryd.prog w = .ok true w := by rw [i]; simp
    exact eqF_step (d + 1) _ _ f0 _ _ _ a0 b0 c0 (.int .u64 b) (.int .u64 b) w (by kernel_rfl) (by kernel_rfl) true true i'
      (eqF_step (d + 1) _ _ f1 _ _ _ a1 b1 c1 (.string s) (.string s) w (by kernel_rfl) (by kernel_rfl) true true (equalIn_str d s w) (by simp [Op.eqFields]))
theorem guardI : Tryd.prog.eqGuardType Tryd.prog.depth 60 = false := by kernel_rfl
theorem exec_neI {o : Oper} {ρ : Operand → Value} {w' : World} (x y : Operand) (ty : TypeId) (ho : o.op = .binOp .neq 60 x y ty) (b : Int) (s : ByteArray) (hx : ρ x = .agg #[.int .u64 b, .string s]) (hy : ρ y = .agg #[.int .u64 b, .string s]) :
    (execOp ρ o).run Tryd.prog w' = .ok (.value (.bool false)) w' := by
  have e : (binOp .neq 60 (.agg #[.int .u64 b, .string s]) (.agg #[.int .u64 b, .string s])).run Tryd.prog w' = .ok (.bool false) w' := by
    rw [run_neq_struct, equalIn_I 9998]; rfl
  unfold execOp
  simp only [ho, hx, hy, Sem.run_bind, run_eqGuard_agg w' .neq 60 x y _ _ guardI, e, Result.andThen_ok]
  rfl
end Go.Proofs.YteaejodihmnbcaaDoor
namespace Go.Proofs.YteaejodihmnbcaaDoor
set_option maxRecDepth 100000
set_option linter.unusedVariables false
open Go.RowKit Plain
/-- One thing appended to a row of one's own, in a statement whose order is drawn. -/
theorem wp_appR {o : Oper} {act : Act} {w : World} {K : Act → World → Prop} {Q : Exit → Act → World → Prop} (t e : TypeId) (ht : Tryd.prog.underlying t = some (.slice e)) (sz bytes : Nat) (z : Value) (hi : (Tryd.prog.info? e).map (fun i => (i.zero, i.size, i.bytes)) = some (some z, sz, bytes)) (hzs : z.cells.size = sz) (hsz : 0 < sz) (s x : Operand)
    (ho : o.op = .call { callee := .builtin .append, args := #[s, x], argTypes := #[t, t] }) (B n : Nat) (v : Value) (xs cs : List Value) (wn : World) (hs : act.eval s = v) (hx : act.eval x = .slice (some ⟨wn.heap.size, 0, none⟩) 1 1) (hw : w = wn.alloc (.cells cs.toArray e)) (hown : wn.ownsRow B e sz v n xs) (hcs : cs.length = sz) (h1 : ∀ u ∈ cs, u.oneCell' = true) (hn : n ≤ 1000000) (hby : bytes ≤ 1000) (hB : B ≤ wn.heap.size)
    (h : ∀ v' w', w'.ownsRow B e sz v' (n + 1) (xs ++ cs) → wn.grownBy w' v.ownBlock → K (act.put o.dst v') w') : Oper.wp Tryd.prog o act w K Q := by
  obtain ⟨i0, hi1, hz0, hz1, hz2⟩ := info_parts hi
  subst hw
  have hm : (n + 1) * bytes ≤ 140737488355328 := Nat.le_trans (Nat.mul_le_mul (show n + 1 ≤ 1000001 by omega) hby) (by decide)
  obtain ⟨v', w', hr, h2, h3, _⟩ := run_append_own (P := Tryd.prog) _ B t o.type e i0 z sz bytes ht hi1 hz0 hz1 hz2 hzs hsz v n xs (own_to hown ((Below.refl _ _).alloc (Nat.le_refl _) _)) ⟨wn.heap.size, 0, none⟩ 1 1 cs (by rw [hcs, Nat.one_mul]) (news_new wn cs e) h1 (by unfold maxLen; omega) hm (by simp; omega)
  unfold Oper.wp execOp
  simp only [ho, resolve, invoke, builtin, Sem.run_bind, Sem.run_pure, Result.andThen_ok, List.map_toArray, List.map_cons, List.map_nil, hs, hx, hr]
  exact h v' w' h2 (grown_alloc h3)
/-- So far. -/
structure MoK (w wr : World) (M : List Im) (k : Nat) (v : Value) : Prop where
  row : wr.ownsRow w.heap.size 60 2 v k (((M.map pl).take k).map ic).flatten
  bel : Below w.heap.size w wr
theorem MoK.step {w wr wd w' : World} {M : List Im} {k : Nat} {v v' : Value} (h : MoK w wr M k v) (hk : k < M.length) (hb : Below wr.heap.size wr wd) (ho : w'.ownsRow w.heap.size 60 2 v' (k + 1) ((((M.map pl).take k).map ic).flatten ++ ic (pl M[k]))) (hg : wd.grownBy w' v.ownBlock) : MoK w w' M (k + 1) v' := by
  have hk2 : k < (M.map pl).length := by simpa using hk
  refine ⟨?_, (below_to h.bel hb).grown hg (below_to h.bel hb).size (fun j hj => (own_blk (own_to h.row hb) j hj).1)⟩
  rw [List.take_succ_eq_append_getElem hk2]
  simp only [List.map_append, List.map_cons, List.map_nil, List.flatten_append, List.getElem_map, List.flatten_cons, List.flatten_nil, List.append_nil]
  exact ho
set_option maxRecDepth 20000 in
set_option maxHeartbeats 2000000 in
theorem modelOf_any (a : Option Addr) (cap : Nat) (M : List Im) (w : World) (h : Imgs w a M) (hl : M.length ≤ 1000) :
    Calls Tryd.prog 12 #[.slice a M.length cap] w fun e w' => ∃ v, e = .returned v ∧ MoK w w' M M.length v := by
  have HM : Box (∀ x, Below w.heap.size w x → Imgs x a M) := ⟨fun x hx => h.below hx⟩
  clear h
  go_enter Tryd.func12, Tryd.ntmps12
  go_wp2
  go_loopw [3, 4] (fun v i wr => ∃ k : Nat, k ≤ M.length ∧ i = .int .i64 (k : Int) ∧ Box (MoK w wr M k v)) (fun _ i _ => M.length - (intOf i).toNat)
  case atStart => exact ⟨0, Nat.zero_le _, rfl, ⟨⟨World.ownsRow_nil _ _ _ _, Below.refl _ _⟩⟩⟩
  case round =>
    obtain ⟨k, hk, rfl, HG⟩ := hrel
    by_cases hlt : k < M.length
    · have hlt1 : decide ((k : Int) < (M.length : Int)) = true := by simp; omega
      obtain ⟨b, o, hae, hbl, hr⟩ := (HM.out w (Below.refl _ _)).tb (by omega)
      subst hae
      have hby := (HM.out w (Below.refl _ _)).byt M[k] (List.getElem_mem hlt)
      have HML : Box (k < M.length) := ⟨hlt⟩
      have HST : Box (∀ wd w' v', Below wr.heap.size wr wd → w'.ownsRow w.heap.size 60 2 v' (k + 1) ((((M.map pl).take k).map ic).flatten ++ ic (pl M[k])) → wd.grownBy w' u3.ownBlock → MoK w w' M (k + 1) v') := ⟨fun wd w' v' h1 h2 h3 => HG.out.step hlt h1 h2 h3⟩
      obtain ⟨⟨blk, ba, bl, bc, bs⟩, hmm⟩ : ∃ m, M[k] = m := ⟨_, rfl⟩
      have hrk := hr k hlt
      rw [hmm] at hby hrk HST
      obtain ⟨s, HS⟩ : ∃ s, Box (strOfNums bs = s) := ⟨_, ⟨rfl⟩⟩
      have HST2 : Box (∀ wd w' v', Below wr.heap.size wr wd → w'.ownsRow w.heap.size 60 2 v' (k + 1) ((((M.map pl).take k).map ic).flatten ++ [.int .u64 blk, .string s]) → wd.grownBy w' u3.ownBlock → MoK w w' M (k + 1) v') := ⟨by rw [← HS.out]; exact HST.out⟩
      have HR : Box (∀ x, Below w.heap.size w x → x.cell? ⟨b, o + k * 2, none⟩ = some (.int .u64 blk) ∧ x.cell? ⟨b, o + k * 2 + 1, none⟩ = some (.slice ba bl bc) ∧ Bytes x ba bl bs) := ⟨fun x hx => ⟨(hx.cell hbl).trans (hrk 0 _ rfl), (hx.cell hbl).trans (hrk 1 _ rfl), hby.1.below hx⟩⟩
      have HOW : Box (∀ x, Below wr.heap.size wr x → x.ownsRow w.heap.size 60 2 u3 k (((M.map pl).take k).map ic).flatten ∧ w.heap.size ≤ x.heap.size) := ⟨fun x hx => ⟨own_to HG.out.row hx, Nat.le_trans HG.out.bel.size hx.size⟩⟩
      have HL2 : Box (k ≤ 1000000) := ⟨by omega⟩
      have hw4 : IntKind.i64.wrap ((k : Int) + 1) = ((k + 1 : Nat) : Int) := by rw [IntKind.wrap_i64]; omega
      clear hr hby hmm hrk HST
      go_upto_region 5 with fail
      refine begin_keep (S := fun x => Below w.heap.size w x) (by kernel_rfl) (fun wd hwd => ?_)
      have hS : Below w.heap.size w wd := by rw [hwd]; exact HG.out.bel.drew
      have hbd : Below wr.heap.size wr wd := by rw [hwd]; exact (Below.refl _ _).drew
      clear hwd
      refine take_s (i := 0) (v := ?_) rfl (by kernel_rfl) (by kernel_rfl) (by kernel_rfl) (fun _ _ _ h => h) (by rfl) ?_ hS ?_
      rotate_left
      · intro w' hLat; clear hLat; go_simp <;> with_reducible rfl
      try simp only [Act.put, List.setIfInBounds_toArray, List.set_cons_zero, List.set_cons_succ, List.getElem_toArray, List.getElem_cons_zero]
      refine take_s (i := 1) (v := ?_) rfl (by kernel_rfl) (by kernel_rfl) (by kernel_rfl) (fun _ _ _ h => h) (by rfl) ?_ hS ?_
      rotate_left
      · intro w' hLat; clear hLat; go_simp <;> with_reducible rfl
      try simp only [Act.put, List.setIfInBounds_toArray, List.set_cons_zero, List.set_cons_succ, List.getElem_toArray, List.getElem_cons_zero, List.getElem_cons_succ]
      refine take_s (i := 2) (v := ?_) rfl (by kernel_rfl) (by kernel_rfl) (by kernel_rfl) (fun _ _ _ h => h) (by rfl) ?_ hS ?_
      rotate_left
      · intro w' hLat; clear hLat; go_simp <;> with_reducible rfl
      try simp only [Act.put, List.setIfInBounds_toArray, List.set_cons_zero, List.set_cons_succ, List.getElem_toArray, List.getElem_cons_zero, List.getElem_cons_succ]
      refine take_s (i := 3) (v := .pointer (some ⟨b, o + k * 2, none⟩)) rfl (by kernel_rfl) (by kernel_rfl) (by kernel_rfl) (fun _ _ _ h => h) (by rfl) (fun w' hLat => exec_idxT 24 36 Tryd.underlying24 2 infoIm _ _ rfl b o M.length cap k rfl rfl HML.out) hS ?_
      try simp only [Act.put, List.setIfInBounds_toArray, List.set_cons_zero, List.set_cons_succ, List.getElem_toArray, List.getElem_cons_zero, List.getElem_cons_succ]
      refine take_s (i := 4) (v := ?_) rfl (by kernel_rfl) (by kernel_rfl) (by kernel_rfl) (fun _ _ _ h => h) (by rfl) ?_ hS ?_
      rotate_left
      · intro w' hLat; clear hLat; go_simp <;> with_reducible rfl
      try simp only [Act.put, List.setIfInBounds_toArray, List.set_cons_zero, List.set_cons_succ, List.getElem_toArray, List.getElem_cons_zero, List.getElem_cons_succ]
      refine take_s (i := 5) (v := .int .u64 blk) rfl (by kernel_rfl) (by kernel_rfl) (by kernel_rfl) (fun _ _ _ h => h) (by rfl) (fun w' hLat => exec_load1 33 _ _ rfl Tryd.underlying33 rfl _ rfl _ (HR.out w' hLat).1) hS ?_
      try simp only [Act.put, List.setIfInBounds_toArray, List.set_cons_zero, List.set_cons_succ, List.getElem_toArray, List.getElem_cons_zero, List.getElem_cons_succ]
      refine take_s (i := 6) (v := ?_) rfl (by kernel_rfl) (by kernel_rfl) (by kernel_rfl) (fun _ _ _ h => h) (by rfl) ?_ hS ?_
      rotate_left
      · intro w' hLat; clear hLat; go_simp <;> with_reducible rfl
      try simp only [Act.put, List.setIfInBounds_toArray, List.set_cons_zero, List.set_cons_succ, List.getElem_toArray, List.getElem_cons_zero, List.getElem_cons_succ]
      refine take_s (i := 7) (v := ?_) rfl (by kernel_rfl) (by kernel_rfl) (by kernel_rfl) (fun _ _ _ h => h) (by rfl) ?_ hS ?_
      rotate_left
      · intro w' hLat; clear hLat; go_simp <;> with_reducible rfl
      try simp only [Act.put, List.setIfInBounds_toArray, List.set_cons_zero, List.set_cons_succ, List.getElem_toArray, List.getElem_cons_zero, List.getElem_cons_succ]
      refine take_s (i := 8) (v := .pointer (some ⟨b, o + k * 2, none⟩)) rfl (by kernel_rfl) (by kernel_rfl) (by kernel_rfl) (fun _ _ _ h => h) (by rfl) (fun w' hLat => exec_idxT 24 36 Tryd.underlying24 2 infoIm _ _ rfl b o M.length cap k rfl rfl HML.out) hS ?_
      try simp only [Act.put, List.setIfInBounds_toArray, List.set_cons_zero, List.set_cons_succ, List.getElem_toArray, List.getElem_cons_zero, List.getElem_cons_succ]
      refine take_s (i := 9) (v := ?_) rfl (by kernel_rfl) (by kernel_rfl) (by kernel_rfl) (fun _ _ _ h => h) (by rfl) ?_ hS ?_
      rotate_left
      · intro w' hLat; clear hLat; go_simp <;> with_reducible rfl
      try simp only [Act.put, List.setIfInBounds_toArray, List.set_cons_zero, List.set_cons_succ, List.getElem_toArray, List.getElem_cons_zero, List.getElem_cons_succ]
      refine take_s (i := 10) (v := .slice ba bl bc) rfl (by kernel_rfl) (by kernel_rfl) (by kernel_rfl) (fun _ _ _ h => h) (by rfl) (fun w' hLat => exec_load1 34 _ _ rfl Tryd.underlying34 rfl _ rfl _ (HR.out w' hLat).2.1) hS ?_
      try simp only [Act.put, List.setIfInBounds_toArray, List.set_cons_zero, List.set_cons_succ, List.getElem_toArray, List.getElem_cons_zero, List.getElem_cons_succ]
      refine take_s (i := 11) (v := .string s) rfl (by kernel_rfl) (by kernel_rfl) (by kernel_rfl) (fun _ _ _ h => h) (by rfl) (fun w' hLat => by rw [← HS.out]; exact exec_conv (.tmp 21) rfl rfl (HR.out w' hLat).2.2) hS ?_
      try simp only [Act.put, List.setIfInBounds_toArray, List.set_cons_zero, List.set_cons_succ, List.getElem_toArray, List.getElem_cons_zero, List.getElem_cons_succ]
      refine take_s (i := 12) (v := .agg #[.int .u64 blk, .string s]) rfl (by kernel_rfl) (by kernel_rfl) (by kernel_rfl) (fun _ _ _ h => h) (by rfl) (fun w' hLat => exec_built 60 [(0, .tmp 16), (1, .tmp 22)] rfl [(0, .int .u64 blk), (1, .string s)] rfl _ (built_I _ _)) hS ?_
      try simp only [Act.put, List.setIfInBounds_toArray, List.set_cons_zero, List.set_cons_succ, List.getElem_toArray, List.getElem_cons_zero, List.getElem_cons_succ]
      refine one_keep (i := 13) (by kernel_rfl) ?_
      refine keep_step rfl (by rfl) ?_
      go_simp
      have hS2 := hS
      have hS : Below w.heap.size w (wd.alloc (.cells #[.int .u64 blk, .string s] 60)) := hS2.alloc hS2.size _
      refine ⟨hS, ?_⟩
      try simp only [Act.put, List.setIfInBounds_toArray, List.set_cons_zero, List.set_cons_succ, List.getElem_toArray, List.getElem_cons_zero, List.getElem_cons_succ]
      refine one_keep (i := 14) (by kernel_rfl) ?_
      refine keep_step rfl (by rfl) ?_
      refine wp_appR 26 60 Tryd.underlying26 2 24 _ infI rfl (by decide) (.tmp 11) (.tmp 24) rfl w.heap.size k u3 (((M.map pl).take k).map ic).flatten [.int .u64 blk, .string s] wd rfl rfl rfl (HOW.out wd hbd).1 rfl (by simp [Value.oneCell']) HL2.out (by decide) (HOW.out wd hbd).2 ?_
      intro v5 x5 hown hgr
      have H5 : Box (MoK w x5 M (k + 1) v5) := ⟨HST2.out wd x5 v5 hbd hown hgr⟩
      have hS : Below w.heap.size w x5 := H5.out.bel
      refine ⟨hS, ?_⟩
      try simp only [Act.put, List.setIfInBounds_toArray, List.set_cons_zero, List.set_cons_succ, List.getElem_toArray, List.getElem_cons_zero, List.getElem_cons_succ]
      refine take_s (i := 15) (v := ?_) rfl (by kernel_rfl) (by kernel_rfl) (by kernel_rfl) (fun _ _ _ h => h) (by rfl) ?_ hS ?_
      rotate_left
      · intro w' hLat; clear hLat; go_simp <;> with_reducible rfl
      try simp only [Act.put, List.setIfInBounds_toArray, List.set_cons_zero, List.set_cons_succ, List.getElem_toArray, List.getElem_cons_zero, List.getElem_cons_succ]
      refine wpAnyH_done (by kernel_rfl) ?_ _
      clear hS2 hS hown hgr hbd
      go_wp2
      go_roundw
      case rel => exact ⟨k + 1, HML.out, by go_num, H5⟩
      case measure => simp [intOf]; have := HML.out; omega
    · obtain rfl : k = M.length := by omega
      have hlt1 : decide ((M.length : Int) < (M.length : Int)) = false := by simp
      go_wp2
      go_ret
      exact ⟨_, rfl, HG.out⟩
end Go.Proofs.YteaejodihmnbcaaDoor
namespace Go.Proofs.YteaejodihmnbcaaDoor
set_option maxRecDepth 100000
set_option linter.unusedVariables false
open Go.RowKit Plain
/-- The digest of bytes. -/
def dsha (M : List Int) : List Int := Dig.Plain.sha M
theorem length_dsha (M : List Int) : (dsha M).length = 32 := Dig.Plain.length_sha M
theorem byt_dsha (M : List Int) : Byt (dsha M) := Dig.Plain.byt_sha M
def z32 : List Int := List.replicate 32 0
theorem len_z32 : z32.length = 32 := by simp [z32]
theorem byt_z32 : Byt z32 := byt_zeros 32
/-- What is digested of a link. -/
def lk (tag : List Int) (p : Int) (L : List Int) : List Int := 255 :: (tag ++ (bytesOf p 4 ++ L))
theorem len_lk (tag : List Int) (p : Int) (L : List Int) : (lk tag p L).length = tag.length + L.length + 5 := by
  simp [lk, length_bytesOf]
  omega
def lnk (tag : List Int) (p : Int) (L : List Int) : List Int := dsha (lk tag p L)
/-- The part of a journal that counts. -/
structure Jst where
  start : Nat
  count : Nat
  tag : List Int
structure OkS (s : Jst) : Prop where
  lt : s.tag.length = 32
  bt : Byt s.tag
  s64 : s.start ≤ 18446744073709551615
  c64 : s.count ≤ 18446744073709551615
def scs (s : Jst) : List Value := .int .u64 (s.start : Int) :: .int .u64 (s.count : Int) :: s.tag.map (Value.int .u8)
def sa (s : Jst) : Array Value := (scs s).toArray
def zs : Jst := ⟨0, 0, z32⟩
theorem okS_zs : OkS zs := ⟨len_z32, byt_z32, Nat.zero_le _, Nat.zero_le _⟩
theorem len_scs {s : Jst} (h : OkS s) : (scs s).length = 34 := by simp [scs, h.lt]
theorem size_sa {s : Jst} (h : OkS s) : (sa s).size = 34 := by rw [sa, List.size_toArray, len_scs h]
theorem toList_sa (s : Jst) : (sa s).toList = scs s := by simp [sa]
theorem one_scs (s : Jst) : ∀ u ∈ scs s, u.oneCell' = true := by
  intro u hu
  simp only [scs, List.mem_cons, List.mem_map] at hu
  rcases hu with rfl | rfl | ⟨z, _, rfl⟩ <;> rfl
theorem all_sa (s : Jst) : (sa s).all (·.oneCell') = true := by
  rw [sa]
  simp only [List.all_toArray, List.all_eq_true]
  exact one_scs s
theorem zeroSt : (Tryd.prog.info? 48).map (·.zero) = some (some (.agg (sa zs))) := by kernel_rfl
theorem infoSt : (Tryd.prog.info? 48).map (·.size) = some 34 := by kernel_rfl
theorem zeroSum : (Tryd.prog.info? 39).map (·.zero) = some (some (.agg (u8s z32))) := by kernel_rfl
theorem infoSum : (Tryd.prog.info? 39).map (·.size) = some 32 := by kernel_rfl
theorem built_St0 : Tryd.prog.built 48 [] = some (sa zs) := by kernel_rfl
theorem built_St1 (x : Nat) : Tryd.prog.built 48 [(0, .int .u64 (x : Int))] = some (sa ⟨x, 0, z32⟩) := by kernel_rfl
/-- A journal, but for its disk. -/
structure Jt where
  key : List Int
  first : Nat
  size : Nat
  st : Jst
  nx : Int
  lim : Int
structure Jt.Ok (j : Jt) : Prop where
  key : j.key.length = 32
  kb : Byt j.key
  lo : 1 ≤ j.size
  hi : j.first + j.size ≤ 4096
  st : OkS j.st
  sl : j.st.start < j.size
  cl : j.st.count ≤ j.size
  nx : 1 ≤ j.nx ∧ j.nx ≤ 18446744073709551615
  lim : 0 ≤ j.lim ∧ j.lim ≤ 9223372036854775807
/-- Its cells, of any parts. -/
def jq (p : Value) (K : List Int) (f n : Int) (s : Jst) (x y : Int) : List Value := p :: (K.map (Value.int .u8) ++ (.int .u64 f :: .int .u64 n :: (scs s ++ [.int .u64 x, .int .u64 y])))
def jcs (D : Nat) (j : Jt) : List Value := jq (.pointer (some ⟨D, 0, none⟩)) j.key (j.first : Int) (j.size : Int) j.st j.nx j.lim
theorem len_jq (p : Value) (K : List Int) (f n : Int) (s : Jst) (x y : Int) (hK : K.length = 32) (hs : OkS s) : (jq p K f n s x y).length = 71 := by simp [jq, hK, len_scs hs]
theorem fill_val (place : Nat → Option (Nat × Nat)) (cells : Array Value) (i off : Nat) (v : Value) (hv : v.cells = #[v]) (rest : List (Nat × Value)) (hp : place i = some (off, 1)) (hf : off + 1 ≤ cells.size) :
    Instr.fill place cells ((i, v) :: rest) = Instr.fill place (cells.setIfInBounds off v) rest := by
  rw [Instr.fill, hp]
  simp only [hv]
  rw [if_neg (by simp; omega)]
  rfl
theorem jq_key (p : Value) (K L : List Int) (f n : Int) (s : Jst) (x y : Int) (hK : K.length = 32) (hL : L.length = 32) : splice (jq p K f n s x y) 1 (L.map (Value.int .u8)) = jq p L f n s x y := by
  simp [splice, jq, hL, hK]
theorem jq_f (p : Value) (K : List Int) (f n m : Int) (s : Jst) (x y : Int) (hK : K.length = 32) : (jq p K f n s x y).set 33 (.int .u64 m) = jq p K m n s x y := by
  simp [jq, hK]
theorem jq_n (p : Value) (K : List Int) (f n m : Int) (s : Jst) (x y : Int) (hK : K.length = 32) : (jq p K f n s x y).set 34 (.int .u64 m) = jq p K f m s x y := by
  simp [jq, hK]
theorem jq_s (p : Value) (K : List Int) (f n : Int) (s t : Jst) (x y : Int) (hK : K.length = 32) (hs : OkS s) (ht : OkS t) : splice (jq p K f n s x y) 35 (scs t) = jq p K f n t x y := by
  simp [splice, jq, List.take_append, List.drop_append, hK, len_scs hs, len_scs ht]
  rw [List.take_of_length_le (by simp [hK]), List.drop_of_length_le (by simp [hK])]
  rfl
theorem jq_x (p : Value) (K : List Int) (f n : Int) (s : Jst) (x y z : Int) (hK : K.length = 32) (hs : OkS s) : (jq p K f n s x y).set 69 (.int .u64 z) = jq p K f n s z y := by
  simp [jq, hK, len_scs hs]
theorem jq_y (p : Value) (K : List Int) (f n : Int) (s : Jst) (x y z : Int) (hK : K.length = 32) (hs : OkS s) : (jq p K f n s x y).set 70 (.int .u64 z) = jq p K f n s x z := by
  simp [jq, hK, len_scs hs]
theorem builtJ (parts : List (Nat × Value)) : Tryd.prog.built 74 parts = Instr.fill (fun i => #[(0, 1), (1, 32), (33, 1), (34, 1), (35, 34), (69, 1), (70, 1)][i]?) (jq (.pointer none) z32 0 0 zs 0 0).toArray parts := by kernel_rfl
theorem built_J (p : Value) (hp : p.cells = #[p]) (K : List Int) (f n : Int) (s : Jst) (x y : Int) (hk : K.length = 32) (hs : OkS s) : Tryd.prog.built 74 [(0, p), (1, .agg (u8s K)), (2, .int .u64 f), (3, .int .u64 n), (4, .agg (sa s)), (5, .int .u64 x), (6, .int .u64 y)] = some (jq p K f n s x y).toArray := by
  have hz : z32.length = 32 := len_z32
  have hu : (u8s K).toList = K.map (Value.int .u8) := by simp [u8s]
  rw [builtJ, fill_val _ _ 0 0 _ hp _ rfl (by rw [List.size_toArray, len_jq _ _ _ _ _ _ _ hz okS_zs]; omega)]
  rw [List.setIfInBounds_toArray, show (jq (.pointer none) z32 0 0 zs 0 0).set 0 p = jq p z32 0 0 zs 0 0 from rfl]
  rw [fill_step _ _ 1 1 32 _ _ rfl (by rw [size_u8s, hk]) (by rw [List.size_toArray, len_jq _ _ _ _ _ _ _ hz okS_zs]; omega), hu, jq_key _ _ _ _ _ _ _ _ hz hk]
  rw [fill_val _ _ 2 33 _ rfl _ rfl (by rw [List.size_toArray, len_jq _ _ _ _ _ _ _ hk okS_zs]; omega), List.setIfInBounds_toArray, jq_f _ _ _ _ _ _ _ _ hk]
  rw [fill_val _ _ 3 34 _ rfl _ rfl (by rw [List.size_toArray, len_jq _ _ _ _ _ _ _ hk okS_zs]; omega), List.setIfInBounds_toArray, jq_n _ _ _ _ _ _ _ _ hk]
  rw [fill_step _ _ 4 35 34 _ _ rfl (size_sa hs) (by rw [List.size_toArray, len_jq _ _ _ _ _ _ _ hk okS_zs]; omega), toList_sa, jq_s _ _ _ _ _ _ _ _ hk okS_zs hs]
  rw [fill_val _ _ 5 69 _ rfl _ rfl (by rw [List.size_toArray, len_jq _ _ _ _ _ _ _ hk hs]; omega), List.setIfInBounds_toArray, jq_x _ _ _ _ _ _ _ _ hk hs]
  rw [fill_val _ _ 6 70 _ rfl _ rfl (by rw [List.size_toArray, len_jq _ _ _ _ _ _ _ hk hs]; omega), List.setIfInBounds_toArray, jq_y _ _ _ _ _ _ _ _ hk hs, Instr.fill]
/-- A journal lies in block J, its disk in D. -/
structure JC (w0 w : World) (J D : Nat) (fp : Nat → Prop) (j : Jt) (d : Disk.Dk) : Prop where
  cx : Disk.Cx w0 w D fp d
  row : w.heap[J]? = some (.cells (jcs D j).toArray 74 (0, 0))
  lo : w0.heap.size ≤ J
  nJ : ¬ fp J
  ok : j.Ok
  fit : j.first + j.size ≤ d.n
  dig : Dig.Tabs w0
  tab : Seal.Tab w0
/-- What follows: nothing has turned but the disk's blocks and those of S; the disk has taken none of another's. -/
structure Fw (S : Nat → Prop) (w w' : World) (fp fp' : Nat → Prop) : Prop where
  t : Disk.Turned (fun k => fp k ∨ S k) w w'
  k : ∀ k, k < w.heap.size → ¬ fp k → ¬ fp' k
/-- Nothing besides. -/
def No (k : Nat) : Prop := False
theorem Fw.refl (S : Nat → Prop) (w : World) (fp : Nat → Prop) : Fw S w w fp fp := ⟨Disk.Turned.refl _ _, fun _ _ h => h⟩
theorem Fw.below {w w' : World} (S : Nat → Prop) (fp : Nat → Prop) (h : Below w.heap.size w w') : Fw S w w' fp fp := ⟨Disk.Turned.of_below h, fun _ _ h => h⟩
theorem Fw.size {S : Nat → Prop} {w w' : World} {fp fp' : Nat → Prop} (h : Fw S w w' fp fp') : w.heap.size ≤ w'.heap.size := h.t.size
theorem Fw.block {S : Nat → Prop} {w w' : World} {fp fp' : Nat → Prop} (h : Fw S w w' fp fp') {k : Nat} (hk : k < w.heap.size) (h1 : ¬ fp k) (h2 : ¬ S k) : w'.heap[k]? = w.heap[k]? := h.t.block k hk (fun h => h.elim h1 h2)
theorem Fw.trans {S : Nat → Prop} {a b c : World} {fp fp' fp'' : Nat → Prop} (h : Fw S a b fp fp') (k : Fw S b c fp' fp'') : Fw S a c fp fp'' := by
  refine ⟨⟨k.t.os.trans h.t.os, k.t.tape.trans h.t.tape, k.t.output.trans h.t.output, Nat.le_trans h.t.size k.t.size, fun i hi hn => ?_⟩, fun i hi hn => ?_⟩
  · have h1 : ¬ fp i := fun hf => hn (.inl hf)
    have h2 : ¬ S i := fun hf => hn (.inr hf)
    exact (k.block (Nat.lt_of_lt_of_le hi h.size) (h.k i hi h1) h2).trans (h.block hi h1 h2)
  · exact k.k i (Nat.lt_of_lt_of_le hi h.size) (h.k i hi hn)
theorem Fw.wider {S S' : Nat → Prop} {w w' : World} {fp fp' : Nat → Prop} (h : Fw S w w' fp fp') (hs : ∀ k, k < w.heap.size → S k → S' k) : Fw S' w w' fp fp' :=
  ⟨⟨h.t.os, h.t.tape, h.t.output, h.t.size, fun i hi hn => h.t.block i hi (fun hf => hn (hf.imp id (hs i hi)))⟩, h.k⟩
theorem Fw.of_fol {w w' : World} {fp fp' : Nat → Prop} (h : Disk.Fol w fp w' fp') (S : Nat → Prop) : Fw S w w' fp fp' :=
  ⟨⟨h.t.os, h.t.tape, h.t.output, h.t.size, fun i hi hn => h.t.block i hi (fun hf => hn (.inl hf))⟩, h.k⟩
theorem Fw.of_but {w w' : World} {G : Nat} (S : Nat → Prop) (hS : S G) (h : But G w w') (fp : Nat → Prop) : Fw S w w' fp fp :=
  ⟨⟨h.os, h.tape, h.output, h.size, fun i hi hn => h.block i hi (fun e => hn (.inr (e ▸ hS)))⟩, fun _ _ h => h⟩
theorem JC.lt {w0 w : World} {J D : Nat} {fp : Nat → Prop} {j : Jt} {d : Disk.Dk} (h : JC w0 w J D fp j d) : J < w.heap.size := (Array.getElem?_eq_some_iff.1 h.row).1
theorem JC.below {w0 w w' : World} {J D : Nat} {fp : Nat → Prop} {j : Jt} {d : Disk.Dk} (h : JC w0 w J D fp j d) (hb : Below w.heap.size w w') : JC w0 w' J D fp j d :=
  ⟨h.cx.step hb, (hb.block J h.lt).trans h.row, h.lo, h.nJ, h.ok, h.fit, h.dig, h.tab⟩
/-- What a call of the disk leaves. -/
theorem JC.fol {w0 w w' : World} {J D : Nat} {fp fp' : Nat → Prop} {j : Jt} {d d' : Disk.Dk} (h : JC w0 w J D fp j d) (c : Disk.Cx w0 w' D fp' d') (f : Disk.Fol w fp w' fp') (hd : d'.n = d.n) : JC w0 w' J D fp' j d' :=
  ⟨c, (f.t.block J h.lt h.nJ).trans h.row, h.lo, fun hf => f.k J h.lt h.nJ hf, h.ok, by rw [hd]; exact h.fit, h.dig, h.tab⟩
/-- Where another block turns. -/
theorem JC.set {w0 w w' : World} {J D : Nat} {fp : Nat → Prop} {j : Jt} {d : Disk.Dk} (h : JC w0 w J D fp j d) (G : Nat) (hb : But G w w') (h1 : ¬ fp G) (h2 : G ≠ J) (h4 : w0.heap.size ≤ G) : JC w0 w' J D fp j d := by
  have hne : ∀ k, fp k → k ≠ G := fun k hk e => h1 (e ▸ hk)
  refine ⟨⟨h.cx.is.same (fun k hk hl => hb.block k hl (hne k hk)), ?_, h.cx.lo, fun k hk => Nat.lt_of_lt_of_le (h.cx.hi k hk) hb.size⟩, (hb.block J h.lt (fun e => h2 e.symm)).trans h.row, h.lo, h.nJ, h.ok, h.fit, h.dig, h.tab⟩
  have hl := h.cx.bel
  exact ⟨hb.os.trans hl.os, hb.tape.trans hl.tape, hb.output.trans hl.output, Nat.le_trans hl.size hb.size, fun k hk => (hb.block k (Nat.lt_of_lt_of_le hk hl.size) (by omega)).trans (hl.block k hk)⟩
/-- Where the journal itself turns. -/
theorem JC.turn {w0 w w' : World} {J D : Nat} {fp : Nat → Prop} {j j' : Jt} {d : Disk.Dk} (h : JC w0 w J D fp j d) (hb : But J w w') (hr : w'.heap[J]? = some (.cells (jcs D j').toArray 74 (0, 0))) (ok : j'.Ok) (hf : j'.first = j.first) (hz : j'.size = j.size) : JC w0 w' J D fp j' d := by
  have hne : ∀ k, fp k → k ≠ J := fun k hk e => h.nJ (e ▸ hk)
  refine ⟨⟨h.cx.is.same (fun k hk hl => hb.block k hl (hne k hk)), ?_, h.cx.lo, fun k hk => Nat.lt_of_lt_of_le (h.cx.hi k hk) hb.size⟩, hr, h.lo, h.nJ, ok, by rw [hf, hz]; exact h.fit, h.dig, h.tab⟩
  have hl := h.cx.bel
  have hlo := h.lo
  exact ⟨hb.os.trans hl.os, hb.tape.trans hl.tape, hb.output.trans hl.output, Nat.le_trans hl.size hb.size, fun k hk => (hb.block k (Nat.lt_of_lt_of_le hk hl.size) (by omega)).trans (hl.block k hk)⟩
/-- What is read of a journal's cells. -/
structure Jrd (w : World) (J D : Nat) (j : Jt) : Prop where
  disk : w.cell? ⟨J, 0, none⟩ = some (.pointer (some ⟨D, 0, none⟩))
  key : w.rangeAt J 1 (j.key.map (Value.int .u8))
  first : w.cell? ⟨J, 33, none⟩ = some (.int .u64 (j.first : Int))
  size : w.cell? ⟨J, 34, none⟩ = some (.int .u64 (j.size : Int))
  st : w.rangeAt J 35 (scs j.st)
  start : w.cell? ⟨J, 35, none⟩ = some (.int .u64 (j.st.start : Int))
  count : w.cell? ⟨J, 36, none⟩ = some (.int .u64 (j.st.count : Int))
  nx : w.cell? ⟨J, 69, none⟩ = some (.int .u64 j.nx)
  lim : w.cell? ⟨J, 70, none⟩ = some (.int .u64 j.lim)
theorem jrd_of {w : World} {J D : Nat} {j : Jt} (h : w.heap[J]? = some (.cells (jcs D j).toArray 74 (0, 0))) (hk : j.key.length = 32) (hs : OkS j.st) : Jrd w J D j := by
  have hr := len_scs hs
  have hm : (j.key.map (Value.int .u8)).length = 32 := by simp [hk]
  have key : ∀ i, (jcs D j)[33 + i]? = (Value.int .u64 (j.first : Int) :: .int .u64 (j.size : Int) :: (scs j.st ++ [.int .u64 j.nx, .int .u64 j.lim]))[i]? := fun i => by
    rw [jcs, jq, show 33 + i = (32 + i) + 1 by omega, List.getElem?_cons_succ, List.getElem?_append_right (by omega), hm]
    congr 1
    omega
  have hc : ∀ i x, (jcs D j)[i]? = some x → w.cell? ⟨J, i, none⟩ = some x := fun i x hx => by
    rw [cell_of_row _ _ _ _ _ _ h]
    simpa using hx
  have st : w.rangeAt J 35 (scs j.st) := fun i x hx => by
    have hi := (List.getElem?_eq_some_iff.1 hx).1
    refine hc _ _ ?_
    rw [show 35 + i = 33 + (i + 2) by omega, key, List.getElem?_cons_succ, List.getElem?_cons_succ, List.getElem?_append_left hi]
    exact hx
  refine ⟨hc _ _ rfl, fun i x hx => ?_, hc _ _ (key 0), hc _ _ (key 1), st, st 0 _ rfl, st 1 _ rfl, ?_, ?_⟩
  · have hi := (List.getElem?_eq_some_iff.1 hx).1
    refine hc _ _ ?_
    rw [jcs, jq, Nat.add_comm, List.getElem?_cons_succ, List.getElem?_append_left hi]
    exact hx
  · refine hc _ _ ?_
    rw [show 69 = 33 + (34 + 2) by rfl, key, List.getElem?_cons_succ, List.getElem?_cons_succ, List.getElem?_append_right (by omega), hr]
    rfl
  · refine hc _ _ ?_
    rw [show 70 = 33 + (35 + 2) by rfl, key, List.getElem?_cons_succ, List.getElem?_cons_succ, List.getElem?_append_right (by omega), hr]
    rfl
theorem JC.rd {w0 w : World} {J D : Nat} {fp : Nat → Prop} {j : Jt} {d : Disk.Dk} (h : JC w0 w J D fp j d) : Jrd w J D j := jrd_of h.row h.ok.key h.ok.st
/-- What a disk's Write tells. -/
def dwr (d : Disk.Dk) (p : Nat) (B : List Int) : Disk.Dk × Int := if d.down = true then (d, 13) else if d.st = true ∧ d.left = 0 then ({ d with down := true }, 13) else (Disk.wrOk d p B, 0)
/-- What the disk's Write answers. -/
theorem dwrite_v {w0 w : World} {D : Nat} {fp : Nat → Prop} {d : Disk.Dk} (C : Disk.Cx w0 w D fp d) (p : Nat) (a : Option Addr) (cap : Nat) (B : List Int) (hB : Bytes w a 192 B) (hap : ∀ ad, a = some ad → ¬ fp ad.block) (hi : p < d.n) (hl : 0 ≤ d.left ∧ d.left ≤ 9223372036854775807) (ho : d.ops.length < 1000000) (hu : d.uw.length < 1000000) :
    Calls Tryd.prog 33 #[.pointer (some ⟨D, 0, none⟩), .int .i64 (p : Int), .slice a 192 cap] w fun e w' => e = .returned (.int .i64 (dwr d p B).2) ∧ (dwr d p B).1.n = d.n ∧ ∃ fp', Disk.Cx w0 w' D fp' (dwr d p B).1 ∧ Disk.Fol w fp w' fp' := by
  by_cases hd : d.down = true
  · refine (Disk.write_down w D fp d C.is p a 192 cap hd).mono ?_
    rintro e w' ⟨rfl, rfl⟩
    simp only [dwr, hd, if_true]
    exact ⟨trivial, trivial, fp, C, ⟨Disk.Turned.refl _ _, fun _ _ h => h⟩⟩
  · have hd' : d.down = false := by simpa using hd
    by_cases hs : d.st = true ∧ d.left = 0
    · refine (Disk.write_stop w D fp d C.is p a 192 cap hd' (by simp [Disk.fit, Disk.hsp, hi]) hs.1 hs.2).mono ?_
      rintro e w' ⟨rfl, h2⟩
      have e : dwr d p B = (({ d with down := true } : Disk.Dk), 13) := by simp only [dwr]; rw [if_neg hd, if_pos hs]
      rw [e]
      exact ⟨rfl, rfl, C.nx h2⟩
    · refine (Disk.write_cx C p a cap B hB hap hd' hi (fun h1 h2 => hs ⟨h1, h2⟩) hl ho hu).mono ?_
      rintro e w' ⟨rfl, h2⟩
      simp only [dwr, hd', hs, Bool.false_eq_true, if_false]
      exact ⟨trivial, rfl, h2⟩
end Go.Proofs.YteaejodihmnbcaaDoor
