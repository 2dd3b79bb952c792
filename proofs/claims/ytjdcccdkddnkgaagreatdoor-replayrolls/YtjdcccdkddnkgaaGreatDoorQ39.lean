/-
  A map of images at the operations of a walk. And what follows it.
-/
import Derived.Test.YtjdcccdkddnkgaaGreatDoorQ38
import Derived.Test.YtjdcccdkddnkgaaGreatDoorQ35
namespace Go.Proofs.YtjdcccdkddnkgaaGreatDoor
set_option maxRecDepth 100000
set_option linter.unusedVariables false
set_option maxRecDepth 100000
open Go.RowKit Go.MapKept Plain
section
variable {P : Program} {ops : Array Oper} {rest : List Oper} {o : Oper} {a : Act} {w : World} {Q : Exit → Act → World → Prop}
theorem wpList_putM (hg : o.guard = none) (t k e : TypeId) (ht : P.underlying t = some (.map k e)) (hk : P.underlying k = some (.int .u64)) (m x v : Operand) (hop : o.op = Op.mapUpdate t m x v) (b : Nat) (M : List (Int × Im)) (i : Int) (u : Im) (hm : a.eval m = .map (some b)) (hx : a.eval x = .int .u64 i) (hv : a.eval v = .agg (imc u).toArray) (h : Mp w b M)
    (hK : ∀ w', Mp w' b (mput M i u) → But b w w' → wpList P ops Q rest (a.put o.dst undef) w') : wpList P ops Q (o :: rest) a w := by
  refine wpList_plain hg fun K' hK' => ?_
  obtain ⟨w', hrun, r1, r2, r3⟩ := h.put ht hk i u
  unfold Oper.wp
  simp [execOp, hop, hm, hx, hv, hrun, Result.andThen]
  exact hK' _ _ (hK w' r1 r2)
theorem wpList_lenM (hg : o.guard = none) (t k e : TypeId) (ht : P.underlying t = some (.map k e)) (m : Operand) (hop : o.op = Op.call { callee := Callee.builtin Builtin.len, args := #[m], argTypes := #[t] }) (b : Nat) (M : List (Int × Im)) (hm : a.eval m = .map (some b)) (h : Mp w b M)
    (hK : wpList P ops Q rest (a.put o.dst (.int .i64 (M.length : Int))) w) : wpList P ops Q (o :: rest) a w := by
  refine wpList_plain hg fun K' hK' => ?_
  obtain ⟨es, clock, h1, h2⟩ := h
  have hl : es.size = M.length := by have := congrArg List.length h2.kv; simpa using this
  have hr : (Builtin.len_ #[t] o.type #[.map (some b)]).run P w = .ok (.int .i64 (M.length : Int)) w := by
    simp [Builtin.len_, run_underlying ht, MapKept.run_getObj_map h1, goInt, hl]
  unfold Oper.wp
  simp [execOp, hop, resolve, invoke, builtin, hm, hr, Result.andThen]
  exact hK' _ _ hK
theorem wpList_rangeM (hg : o.guard = none) (t k e : TypeId) (ht : P.underlying t = some (.map k e)) (m : Operand) (hop : o.op = Op.range t m) (b : Nat) (M : List (Int × Im)) (hm : a.eval m = .map (some b)) (h : Mp w b M)
    (hK : ∀ w', Rg w' b w.heap.size M [] → Below w.heap.size w w' → wpList P ops Q rest (a.put o.dst (.pointer (some ⟨w.heap.size, 0, none⟩))) w') : wpList P ops Q (o :: rest) a w := by
  refine wpList_plain hg fun K' hK' => ?_
  obtain ⟨w', hrun, r1, r2, r3⟩ := h.range (P := P) ht
  unfold Oper.wp
  simp [execOp, hop, hm, hrun, Result.andThen]
  exact hK' _ _ (hK w' r1 r2)
end
/-- What a step does hangs on no type. -/
theorem next_ty {P : Program} {w : World} {r b since c0 clock : Nat} {seen : Array Nat} {es : Array MapEntry} (hr : w.heap[r]? = some (.mapIter (some b) since seen c0)) (hb : w.heap[b]? = some (.map es clock)) (ty ty' : TypeId) : (Instr.next (.pointer (some ⟨r, 0, none⟩)) false ty).run P w = (Instr.next (.pointer (some ⟨r, 0, none⟩)) false ty').run P w := by
  simp only [Instr.next, getObj, Sem.run_bind, Sem.run, hr, hb, Result.andThen]
theorem Rg.next2 {w : World} {b r : Nat} {m dn : List (Int × Im)} (h : Rg w b r m dn) {P : Program} :
    ((dn.map kv).Perm (m.map kv) ∧ ∀ ty, (Instr.next (.pointer (some ⟨r, 0, none⟩)) false ty).run P w = .ok (.tuple #[.bool false]) w) ∨
    ∃ p w', p ∈ m ∧ (∀ ty, (Instr.next (.pointer (some ⟨r, 0, none⟩)) false ty).run P w = .ok (.tuple #[.bool true, .int .u64 p.1, .agg (imc p.2).toArray]) w') ∧ Rg w' b r m (dn ++ [p]) ∧ But r w w' ∧ w'.heap.size = w.heap.size ∧ (Instr.entry (.pointer (some ⟨r, 0, none⟩))).run P w' = .ok (.tuple #[.int .u64 p.1, .agg (imc p.2).toArray]) w' ∧ w'.rangeLeft b r < w.rangeLeft b r := by
  have h' := h
  obtain ⟨es, clock, since, seen, c0, de, q1, q2, q3, _⟩ := h
  rcases h'.next (P := P) 0 with ⟨h1, h2⟩ | ⟨p, w', h1, h2, h3⟩
  · exact .inl ⟨h1, fun ty => (next_ty q3 q1 ty 0).trans h2⟩
  · exact .inr ⟨p, w', h1, fun ty => (next_ty q3 q1 ty 0).trans h2, h3⟩
/-- What is in a map's pairs. -/
theorem perm_pl {dn m : List (Int × Im)} (h : (dn.map kv).Perm (m.map kv)) (hd : ∀ p ∈ dn, p ∈ m) (hn : (m.map Prod.fst).Nodup) (hk : (dn.map Prod.fst).Nodup) : dn.Perm m := by
  have n1 := nodup_of_keys _ hk
  have n2 := nodup_of_keys _ hn
  refine (List.perm_ext_iff_of_nodup n1 n2).2 fun p => ⟨hd p, fun hp => ?_⟩
  have : kv p ∈ dn.map kv := h.mem_iff.2 (List.mem_map_of_mem hp)
  obtain ⟨q, hq, e⟩ := List.mem_map.1 this
  have e1 : q.1 = p.1 := by have := congrArg Prod.fst e; simpa [kv] using this
  have hqm := hd q hq
  have key : ∀ L : List (Int × Im), (L.map Prod.fst).Nodup → ∀ x ∈ L, ∀ y ∈ L, x.1 = y.1 → x = y := by
    intro L
    induction L with
    | nil => intro _ x hx; simp at hx
    | cons z L ih =>
      intro hN x hx y hy exy
      have hN' := List.nodup_cons.1 hN
      rcases List.mem_cons.1 hx with e1 | hx2
      · rcases List.mem_cons.1 hy with e2 | hy2
        · rw [e1, e2]
        · exact absurd (List.mem_map_of_mem (f := Prod.fst) hy2) (by rw [← exy, e1]; exact hN'.1)
      · rcases List.mem_cons.1 hy with e2 | hy2
        · exact absurd (List.mem_map_of_mem (f := Prod.fst) hx2) (by rw [exy, e2]; exact hN'.1)
        · exact ih hN'.2 x hx2 y hy2 exy
  rw [← key m hn q hqm p hp e1]
  exact hq
theorem keys_of_kv {dn m : List (Int × Im)} (h : (dn.map kv).Perm (m.map kv)) (hn : (m.map Prod.fst).Nodup) : (dn.map Prod.fst).Nodup := by
  have key : ∀ L : List (Int × Im), (L.map Prod.fst) = (L.map kv).map (fun x => match x.1 with | .int _ i => i | _ => 0) := fun L => by
    rw [List.map_map]
    rfl
  rw [key] at hn ⊢
  exact (h.map _).nodup_iff.2 hn
end Go.Proofs.YtjdcccdkddnkgaaGreatDoor
namespace Go.Proofs.YtjdcccdkddnkgaaGreatDoor
set_option maxRecDepth 100000
set_option linter.unusedVariables false
open Go.RowKit Plain
attribute [local go_sem] Oper.semAt_some
/-- All images of changes. -/
def allM (C : List Sx) : List Im := (C.map (·.M)).flatten
theorem allM_take (C : List Sx) (k : Nat) (hk : k < C.length) : allM (C.take (k + 1)) = allM (C.take k) ++ C[k].M := by
  rw [List.take_succ_eq_append_getElem hk]
  simp only [allM, List.map_append, List.map_cons, List.map_nil, List.flatten_append, List.flatten_cons, List.flatten_nil, List.append_nil]
/-- So far: what was put. -/
structure LtK (w wr : World) (g : Nat) (M : List Im) : Prop where
  mp : Mp wr g (mF M)
  bel : Below w.heap.size w wr
theorem LtK.step {w wr x w' : World} {g : Nat} {M : List Im} (h : LtK w wr g M) (hb : Below wr.heap.size wr x) (m : Im) (hm : Mp w' g (mput (mF M) m.blk m)) (hbt : But g x w') (hg : w.heap.size ≤ g) : LtK w w' g (M ++ [m]) := by
  refine ⟨by rw [mF_snoc]; exact hm, ?_⟩
  have hl := below_to h.bel hb
  exact ⟨hbt.os.trans hl.os, hbt.tape.trans hl.tape, hbt.output.trans hl.output, Nat.le_trans hl.size hbt.size, fun k hk => (hbt.block k (Nat.lt_of_lt_of_le hk hl.size) (by omega)).trans (hl.block k hk)⟩
/-- So far: what was told, in the order in which it came. -/
structure LrK (w w1 wr : World) (g r : Nat) (m dn : List (Int × Im)) (v : Value) (Y : List Im) : Prop where
  rg : Rg wr g r m dn
  im : OImgs wr w1.heap.size v Y
  pls : Y.map pl = dn.map (fun p => (p.1, p.2.bs))
  mem : ∀ p ∈ dn, p ∈ m
  nn : v ≠ .slice none 0 0
  bel : Below w.heap.size w wr
  lo : w.heap.size ≤ w1.heap.size ∧ w1.heap.size ≤ wr.heap.size ∧ w1.heap.size ≤ r ∧ w.heap.size ≤ g ∧ g < w1.heap.size
theorem map_ne {w : World} {B n g : Nat} {e : TypeId} {sz : Nat} {v : Value} {xs : List Value} {es : Array MapEntry} {c : Nat} (h : w.ownsRow B e sz v n xs) (hg : w.heap[g]? = some (.map es c)) : some g ≠ v.ownBlock := fun e' => by
  obtain ⟨_, cur, h2⟩ := own_blk h g e'.symm
  rw [hg] at h2
  cases h2
theorem iter_ne {w : World} {B n g : Nat} {e : TypeId} {sz : Nat} {v : Value} {xs : List Value} {a : Option Nat} {b c : Nat} {s : Array Nat} (h : w.ownsRow B e sz v n xs) (hg : w.heap[g]? = some (.mapIter a b s c)) : some g ≠ v.ownBlock := fun e' => by
  obtain ⟨_, cur, h2⟩ := own_blk h g e'.symm
  rw [hg] at h2
  cases h2
theorem Rg.ne {w : World} {b r : Nat} {m dn : List (Int × Im)} (h : Rg w b r m dn) {B n : Nat} {e : TypeId} {sz : Nat} {v : Value} {xs : List Value} (ho : w.ownsRow B e sz v n xs) : some b ≠ v.ownBlock ∧ some r ≠ v.ownBlock := by
  obtain ⟨es, clock, since, seen, c0, de, q1, q2, q3, q4⟩ := h
  exact ⟨map_ne ho q1, iter_ne ho q3⟩
/-- The step's own turn leaves the row. -/
theorem LrK.mid {w w1 wr x : World} {g r : Nat} {m dn : List (Int × Im)} {v : Value} {Y : List Im} (h : LrK w w1 wr g r m dn v Y) (hb : But r wr x) : OImgs x w1.heap.size v Y ∧ Below w.heap.size w x := by
  have hne := h.rg.ne h.im.row
  refine ⟨⟨own_same h.im.row (fun k hk => hb.block k (h.im.row.lt k hk).2 (fun e => hne.2 (by rw [← e]; exact hk.symm))), fun y hy => ?_⟩, ?_⟩
  · have o := h.im.byt y hy
    have hn2 := h.rg.ne o.own
    exact ⟨own_same o.own (fun k hk => hb.block k (o.own.lt k hk).2 (fun e => hn2.2 (by rw [← e]; exact hk.symm))), o.byt, o.num⟩
  · have hl := h.bel
    have := h.lo
    exact ⟨hb.os.trans hl.os, hb.tape.trans hl.tape, hb.output.trans hl.output, Nat.le_trans hl.size hb.size, fun k hk => (hb.block k (Nat.lt_of_lt_of_le hk hl.size) (by omega)).trans (hl.block k hk)⟩
theorem LrK.step {w w1 wr x y w' : World} {g r : Nat} {m dn : List (Int × Im)} {v v' : Value} {Y : List Im} (h : LrK w w1 wr g r m dn v Y) (hb : But r wr x) (p : Int × Im) (hp : p ∈ m) (hr : Rg x g r m (dn ++ [p])) (hy : Below x.heap.size x y) (a : Option Addr) (c : Nat) (n : Nat) (hn : n = p.2.bl) (ho : y.ownsRow x.heap.size 5 1 (.slice a n c) n (p.2.bs.map (Value.int .u8))) (hbt : Byt p.2.bs) (hnum : N64 p.1) (hw : w'.ownsRow w1.heap.size 76 2 v' (Y.length + 1) ((Y.map imc).flatten ++ [.int .u64 p.1, .slice a n c])) (hg : y.grownBy w' v.ownBlock) (hnn : v' ≠ .slice none 0 0) : LrK w w1 w' g r m (dn ++ [p]) v' (Y ++ [⟨p.1, a, n, c, p.2.bs⟩]) := by
  obtain ⟨m1, m2⟩ := h.mid hb
  have m3 := m1.to hy
  have hlo := h.lo
  have hbs := hb.size
  have hys := hy.size
  have hgs := hg.size
  have hry := hr.same (hy.block g hr.lt.1) (hy.block r hr.lt.2.1)
  have hne := hry.ne m3.row
  refine ⟨hry.same (hg.block g hry.lt.1 hne.1) (hg.block r hry.lt.2.1 hne.2), ⟨?_, fun z hz => ?_⟩, ?_, fun q hq => ?_, hnn, ?_, by omega⟩
  · rw [List.map_append, List.flatten_append]
    simpa [imc] using hw
  · rcases List.mem_append.1 hz with hz | hz
    · exact (m3.byt z hz).grown m3.row (by decide) hg
    · simp only [List.mem_cons, List.not_mem_nil, or_false] at hz
      subst hz
      exact (OIm.low (B := x.heap.size) (m := ⟨p.1, a, n, c, p.2.bs⟩) ⟨ho, hbt, hnum⟩ (by omega)).grown m3.row (by decide) hg
  · rw [List.map_append, List.map_append, h.pls]
    simp [pl]
  · rcases List.mem_append.1 hq with hq | hq
    · exact h.mem q hq
    · simp only [List.mem_cons, List.not_mem_nil, or_false] at hq
      rw [hq]; exact hp
  · have hl := below_to m2 hy
    exact hl.grown hg hl.size (fun j hj => by have := (own_blk m3.row j hj).1; omega)
theorem LrK.fin {w w1 wr : World} {g r : Nat} {M : List Im} {dn : List (Int × Im)} {v : Value} {Y : List Im} (h : LrK w w1 wr g r (mF M) dn v Y) (hp : (dn.map kv).Perm ((mF M).map kv)) {Y' : List Im} (hY : Y'.Perm Y) (hs : Y'.Pairwise (fun a b => a.blk ≤ b.blk)) : Y'.map pl = latP (M.map pl) := by
  have hmr := mr_mF M
  have hdm := perm_pl hp h.mem hmr.nd (keys_of_kv hp hmr.nd)
  refine sorted_lat hmr ?_ ?_
  · have e1 : (mF M).map (fun p => pl p.2) = (mF M).map (fun p => (p.1, p.2.bs)) := List.map_congr_left (fun p hp => by rw [hmr.key p hp]; rfl)
    rw [e1]
    refine (hY.map pl).trans ?_
    rw [h.pls]
    exact hdm.map _
  · rw [List.pairwise_map]
    exact hs
theorem app_nn {w : World} {B n : Nat} {e : TypeId} {sz : Nat} {v : Value} {xs : List Value} (h : w.ownsRow B e sz v (n + 1) xs) : v ≠ .slice none 0 0 := by
  rcases h.2 with ⟨_, h0⟩ | ⟨g, cap, cur, rfl, _⟩
  · omega
  · exact fun e => by cases e
end Go.Proofs.YtjdcccdkddnkgaaGreatDoor
namespace Go.Proofs.YtjdcccdkddnkgaaGreatDoor
set_option maxRecDepth 100000
set_option linter.unusedVariables false
open Go.RowKit Plain
attribute [local go_sem] Oper.semAt_some
theorem infoSlz : (Tryz.prog.info? 47).map (·.size) = some 1 := by kernel_rfl
set_option maxHeartbeats 8000000 in
theorem latest_v (a : Option Addr) (cap : Nat) (C : List Sx) (w : World) (h : Igss w a C) (hl : C.length ≤ 1000) (hc : ∀ c ∈ C, c.l ≤ 1000) (hbl : ∀ m ∈ allM C, m.bl < 1000000) :
    Calls Tryz.prog 35 #[.slice a C.length cap] w fun e w' => ∃ v Y, e = .returned v ∧ OImgs w' w.heap.size v Y ∧ Y.map pl = latP ((allM C).map pl) ∧ Below w.heap.size w w' := by
  obtain ⟨i0, hi, hz0, hz1, hz2⟩ := info_parts infIm
  obtain ⟨n, hn⟩ : ∃ n, C.length = n := ⟨_, rfl⟩
  rw [hn] at hl ⊢
  obtain ⟨g, hg⟩ : ∃ g, w.heap.size = g := ⟨_, rfl⟩
  obtain ⟨w1, hw1⟩ : ∃ w1, w.alloc (.map #[] 0) = w1 := ⟨_, rfl⟩
  have hb1 : Below w.heap.size w w1 := by rw [← hw1]; exact (Below.refl _ _).alloc (Nat.le_refl _) _
  have H0 : Box (LtK w w1 g (allM (C.take 0))) := ⟨⟨by rw [← hw1, ← hg]; exact mp_new w, hb1⟩⟩
  have HI : Box (∀ wr, Below w.heap.size w wr → Igss wr a C) := ⟨fun wr hb => h.below hb⟩
  have HN : Box (C.length = n ∧ n ≤ 1000 ∧ ∀ c ∈ C, c.l ≤ 1000) := ⟨hn, hl, hc⟩
  have HL : Box (∀ k (hk : k < C.length), allM (C.take (k + 1)) = allM (C.take k) ++ C[k].M) := ⟨fun k hk => allM_take C k hk⟩
  have HGG : Box (w.heap.size = g) := ⟨hg⟩
  have HLM : Box ((allM C).length ≤ 1000000) := ⟨by
    have key : ∀ L : List Sx, (∀ c ∈ L, c.M.length ≤ 1000) → (allM L).length ≤ 1000 * L.length := by
      intro L
      induction L with
      | nil => intro _; simp [allM]
      | cons c L ih =>
        intro hh
        have h1 := ih (fun c hc => hh c (by simp [hc]))
        have h2 := hh c (by simp)
        have e : allM (c :: L) = c.M ++ allM L := by simp [allM]
        rw [e, List.length_append, List.length_cons]
        omega
    have := key C (fun c hcm => by rw [(h.im c hcm).1]; exact hc c hcm)
    omega⟩
  have HBY : Box (∀ m ∈ allM C, Bytes w m.ba m.bl m.bs ∧ N64 m.blk ∧ m.bl < 1000000) := ⟨fun m hm => by
    obtain ⟨l, hl1, hl2⟩ := List.mem_flatten.1 hm
    obtain ⟨c, hcm, rfl⟩ := List.mem_map.1 hl1
    have := (h.im c hcm).2.1.byt m hl2
    exact ⟨this.1, this.2.1, hbl m hm⟩⟩
  clear h hl hc hn hg hb1 hbl
  go_enter Tryz.func35, Tryz.ntmps35
  have hmm := @run_makeMap Tryz.prog
  go_upto_region 2 with fail
  (try simp only [HGG.out])
  clear hw1 hmm
  go_wp2
  go_loopw [14] (fun i wr => ∃ k : Nat, k ≤ n ∧ i = .int .i64 (k : Int) ∧ Box (LtK w wr g (allM (C.take k)))) (fun i _ => n - (intOf i).toNat)
  case atStart => exact ⟨0, Nat.zero_le _, rfl, H0⟩
  case round =>
    clear H0
    obtain ⟨k, hk, rfl, HG⟩ := hrel
    obtain ⟨wo, rfl⟩ : ∃ wo, wo = wr := ⟨_, rfl⟩
    by_cases hlt : k < n
    · have hlt1 : decide ((k : Int) < (n : Int)) = true := by simp; omega
      have hkC : k < C.length := by rw [HN.out.1]; exact hlt
      have HK : Box (k < n) := ⟨hlt⟩
      have HIo := HI.out wo HG.out.bel
      obtain ⟨b, o, hae, hbl, hr⟩ := HIo.tb (by omega)
      subst hae
      have hrk := hr k hkC
      obtain ⟨hcl, hcI, hcm⟩ := HIo.im C[k] (List.getElem_mem hkC)
      have hc10 := HN.out.2.2 C[k] (List.getElem_mem hkC)
      obtain ⟨⟨ca, cl, cc, CM⟩, hx⟩ : ∃ c, C[k] = c := ⟨_, rfl⟩
      rw [hx] at hrk hcl hcI hcm hc10
      dsimp only at hcl hcI hcm hc10
      have c0 : wo.cell? ⟨b, o + k, none⟩ = some (.slice ca cl cc) := by have := hrk 0 _ rfl; rwa [Nat.mul_one, Nat.add_zero] at this
      have HCI : Box (∀ wr, Below w.heap.size w wr → Imgs wr ca CM) := ⟨fun wr hb => by have := ((HI.out wr hb).im C[k] (List.getElem_mem hkC)).2.1; rw [hx] at this; exact this⟩
      have HAL : Box (allM (C.take (k + 1)) = allM (C.take k) ++ CM) := ⟨by rw [HL.out k hkC, hx]⟩
      have HCM : Box (CM.length = cl ∧ cl ≤ 1000) := ⟨hcl, hc10⟩
      obtain ⟨A, hA⟩ : ∃ A, allM (C.take k) = A := ⟨_, rfl⟩
      rw [hA] at HG HAL
      have HG0 : Box (LtK w wo g (A ++ CM.take 0)) := ⟨by simpa using HG.out⟩
      clear hx hrk hcl hcI hA HIo hr hbl hcm
      go_upto_region 5 with (refine atIdx 24 ?_; refine wpList_run rfl _ _ (exec_idxT 24 47 Tryz.underlying24 1 infoSlz _ _ rfl b o n cap k rfl rfl HK.out) ?_; (try rw [Nat.mul_one]))
      go_wp2
      go_loopw [20] (fun j wr => ∃ q : Nat, q ≤ cl ∧ j = .int .i64 (q : Int) ∧ Box (LtK w wr g (A ++ CM.take q))) (fun j _ => cl - (intOf j).toNat)
      case atStart => exact ⟨0, Nat.zero_le _, rfl, HG0⟩
      case round =>
        clear HG0
        obtain ⟨q, hq, rfl, HQ⟩ := hrel
        by_cases hql : q < cl
        · have hq1 : decide ((q : Int) < (cl : Int)) = true := by simp; omega
          have hqM : q < CM.length := by rw [HCM.out.1]; exact hql
          have HQL : Box (q < cl) := ⟨hql⟩
          obtain ⟨b2, o2, hae, hbl, hr2⟩ := (HCI.out wr HQ.out.bel).tb (by omega)
          subst hae
          have hrq := hr2 q hqM
          obtain ⟨⟨blk, ba, bl, bc, bs⟩, hx⟩ : ∃ m, CM[q] = m := ⟨_, rfl⟩
          rw [hx] at hrq
          simp only [imc] at hrq
          have HR : Box (wr.rangeAt b2 (o2 + q * 2) [.int .u64 blk, .slice ba bl bc]) := ⟨hrq⟩
          obtain ⟨G, hG⟩ : ∃ G, wr.heap.size = G := ⟨_, rfl⟩
          have HHG : Box (wr.heap.size = G) := ⟨hG⟩
          have HST : Box (∀ x w', Below wr.heap.size wr x → Mp w' g (mput (mF (A ++ CM.take q)) blk ⟨blk, ba, bl, bc, bs⟩) → But g x w' → LtK w w' g (A ++ CM.take (q + 1))) := ⟨fun x w' h1 h2 h3 => by
            have := HQ.out.step h1 ⟨blk, ba, bl, bc, bs⟩ h2 h3 (by have := HGG.out; omega)
            rw [List.take_succ_eq_append_getElem hqM, hx, ← List.append_assoc]
            exact this⟩
          have HMP : Box (∀ x, Below wr.heap.size wr x → Mp x g (mF (A ++ CM.take q))) := ⟨fun x hx' => HQ.out.mp.same (hx'.block g HQ.out.mp.lt)⟩
          clear hx hrq hr2 hG hbl
          go_upto_region 8 with (first
            | (refine atIdx 47 ?_; refine wpList_run rfl _ _ (exec_idxT 47 76 Tryz.underlying47 2 infoIm _ _ rfl b2 o2 cl cc q rfl rfl HQL.out) ?_)
            | (refine atLoad 76 ?_; refine wpList_ldMid rfl 76 _ _ rfl Tryz.underlying76 rfl b2 (o2 + q * 2) rfl [.int .u64 blk, .slice ba bl bc] infoIm HR.out ?_)
            | (refine atAlloc _ ?_; refine wpList_run rfl _ _ (exec_alloc 76 rfl _ zeroIm) ?_)
            | (refine atStore _ ?_; refine wpList_newRow wr #[.int .u64 0, .slice none 0 0] #[.int .u64 blk, .slice ba bl bc] infoIm rfl (by simp [Value.oneCell']) rfl _ _ rfl rfl rfl rfl ?_; intro x1 h1 hb1; have H1 : Box (x1.heap[wr.heap.size]? = some (.cells #[.int .u64 blk, .slice ba bl bc] 76 (0, 0)) ∧ Below wr.heap.size wr x1) := ⟨h1, hb1⟩; clear h1 hb1))
          (try simp only [HHG.out])
          have HRS : Box (x1.rangeAt G 0 [.int .u64 blk, .slice ba bl bc]) := ⟨by
            have := H1.out.1
            rw [HHG.out] at this
            exact range_arr this _ (fun j v hv => by simpa using hv)⟩
          have c1 : x1.cell? ⟨G, 0, none⟩ = some (.int .u64 blk) := HRS.out 0 _ rfl
          have HM1 : Box _ := ⟨HMP.out x1 H1.out.2⟩
          have hw5 : IntKind.i64.wrap ((q : Int) + 1) = ((q + 1 : Nat) : Int) := by have := HCM.out.2; rw [IntKind.wrap_i64]; omega
          go_wp2_with (first
            | (refine atLoad 76 ?_; refine wpList_ldMid rfl 76 _ _ rfl Tryz.underlying76 rfl G 0 rfl [.int .u64 blk, .slice ba bl bc] infoIm HRS.out ?_)
            | (at_mapUpdate; refine wpList_putM rfl 149 25 76 Tryz.underlying149 Tryz.underlying25 _ _ _ rfl g _ blk ⟨blk, ba, bl, bc, bs⟩ rfl rfl rfl HM1.out ?_; intro x2 h2 h3; have H2 : Box (LtK w x2 g (A ++ CM.take (q + 1))) := ⟨HST.out x1 x2 H1.out.2 h2 h3⟩; clear h2 h3))
          go_roundw
          case rel => exact ⟨q + 1, by omega, by go_num, H2⟩
          case measure => simp [intOf]; omega
        · have hq1 : decide ((q : Int) < (cl : Int)) = false := by simp; omega
          obtain rfl : q = cl := by omega
          have HE : Box (LtK w wr g (allM (C.take (k + 1)))) := ⟨by
            rw [HAL.out]
            have := HQ.out
            rwa [List.take_of_length_le (Nat.le_of_eq HCM.out.1)] at this⟩
          clear HQ
          have hwk : IntKind.i64.wrap ((k : Int) + 1) = ((k + 1 : Nat) : Int) := by have := HK.out; have := HN.out.2.1; rw [IntKind.wrap_i64]; omega
          go_wp2
          go_roundw
          case rel => exact ⟨k + 1, by have := HK.out; omega, by go_num, HE⟩
          case measure => have := HK.out; simp [intOf]; omega
    · have hlt1 : decide ((k : Int) < (n : Int)) = false := by simp; omega
      obtain rfl : k = n := by omega
      have HE : Box (LtK w wo g (allM C)) := ⟨by have := HG.out; rwa [List.take_of_length_le (Nat.le_of_eq HN.out.1)] at this⟩
      clear HG HL
      obtain ⟨mm, hmm⟩ : ∃ m, mF (allM C) = m := ⟨_, rfl⟩
      have HMM : Box (mF (allM C) = mm ∧ mm.length ≤ 1000000) := ⟨hmm, by rw [← hmm]; exact Nat.le_trans (len_mF _) HLM.out⟩
      have HMP : Box (Mp wo g mm) := ⟨by rw [← hmm]; exact HE.out.mp⟩
      have HMK : Box (i0.bytes * mm.length ≤ 281474976710656 ∧ mm.length ≤ maxLen ∧ w.heap.size ≤ wo.heap.size) := ⟨by have := HMM.out.2; rw [hz2]; omega, by have := HMM.out.2; unfold maxLen; omega, HE.out.bel.size⟩
      clear hmm
      go_upto_region 12 with (first
        | (at_len; refine wpList_lenM rfl 149 25 76 Tryz.underlying149 _ rfl g mm rfl HMP.out ?_)
        | (at_make; refine wpList_make_own _ rfl _ _ 47 rfl wo.heap.size 76 i0 _ 2 Tryz.underlying47 hi hz0 hz1 _ _ _ mm.length rfl rfl rfl HMK.out.1 HMK.out.2.1 (Nat.le_refl _) ?_; intro x1 a1 a2; have H1 : Box (x1.ownsRow wo.heap.size 76 2 (.slice (some ⟨wo.heap.size, 0, none⟩) 0 mm.length) 0 [] ∧ wo.grownBy x1 none) := ⟨a1, a2⟩; clear a1 a2))
      have HB1 : Box (Below wo.heap.size wo x1 ∧ Mp x1 g mm) := ⟨(Below.refl _ _).grown H1.out.2 (Nat.le_refl _) (fun j hj => by cases hj), HMP.out.same (H1.out.2.block g HMP.out.lt (by simp))⟩
      obtain ⟨r, hr⟩ : ∃ r, x1.heap.size = r := ⟨_, rfl⟩
      obtain ⟨B0, hB0⟩ : ∃ B, wo.heap.size = B := ⟨_, rfl⟩
      (try simp only [hB0])
      rw [hB0] at H1
      have HB0 : Box (wo.heap.size = B0 ∧ x1.heap.size = r) := ⟨hB0, hr⟩
      clear hB0
      go_wp2_with (at_range; refine wpList_rangeM rfl 149 25 76 Tryz.underlying149 _ rfl g mm rfl HB1.out.2 ?_; intro x2 a1 a2; have H2 : Box (Rg x2 g x1.heap.size mm [] ∧ Below x1.heap.size x1 x2) := ⟨a1, a2⟩; clear a1 a2)
      (try simp only [hr])
      (try go_frame)
      have HST0 : Box (LrK w wo x2 g r mm [] (.slice (some ⟨B0, 0, none⟩) 0 mm.length) []) := ⟨by
        have hrg := H2.out.1
        rw [hr] at hrg
        have o1 := own_to H1.out.1 H2.out.2
        have z1 := HB1.out.1.size
        have z2 := H2.out.2.size
        have z3 := HE.out.bel.size
        have z4 := HMP.out.lt
        rw [← HB0.out.1] at o1 ⊢
        exact ⟨hrg, ⟨o1, fun m hm => by simp at hm⟩, rfl, fun p hp => (by simp at hp), fun e => (by cases e), below_to HE.out.bel (below_to HB1.out.1 H2.out.2), ⟨z3, by omega, by omega, by have := HGG.out; omega, z4⟩⟩⟩
      clear hr H1
      go_loopw [8] (fun v wr => ∃ (dn : List (Int × Im)) (Y : List Im), Box (LrK w wo wr g r mm dn v Y)) (fun _ wr => wr.rangeLeft g r)
      case atStart => exact ⟨[], [], HST0⟩
      case round =>
        clear HST0 H2 HB1
        obtain ⟨dn, Y, HR⟩ := hrel
        rcases HR.out.rg.next2 (P := Tryz.prog) with ⟨hperm, hrun⟩ | ⟨p, x3, hp, hrun, hrg, hbt, hsz, hen, hlft⟩
        · have HP : Box ((dn.map kv).Perm (mm.map kv)) := ⟨hperm⟩
          have HSO : Box (Calls Tryz.prog 71 #[u8, .func (.func 72) #[] #[]] wr fun e w' => e = .returned (.tuple #[]) ∧ ∃ Y', Y'.Perm Y ∧ Y'.Pairwise (fun a b => a.blk ≤ b.blk) ∧ OImgs w' wo.heap.size u8 Y' ∧ wr.grownBy w' u8.ownBlock) := ⟨sortIm_v HR.out.im HR.out.nn (by
            have h1 := congrArg List.length HR.out.pls
            have h2 := hperm.length_eq
            have h3 := HMM.out.2
            simp at h1 h2
            omega)⟩
          clear hperm
          go_wp2_with (go_at_call 71; refine HSO.out.mono ?_; rintro e x3 ⟨rfl, Y', q1, q2, q3, q4⟩; have H3 : Box (Y'.Perm Y ∧ Y'.Pairwise (fun a b => a.blk ≤ b.blk) ∧ OImgs x3 wo.heap.size u8 Y' ∧ wr.grownBy x3 u8.ownBlock) := ⟨q1, q2, q3, q4⟩; clear q1 q2 q3 q4)
          go_ret
          have hR := HR.out
          rw [← HMM.out.1] at hR
          have hP := HP.out
          rw [← HMM.out.1] at hP
          have hlo := hR.lo
          refine ⟨u8, Y', rfl, ⟨own_low2 H3.out.2.2.1.row hlo.1, fun m hm => (H3.out.2.2.1.byt m hm).low hlo.1⟩, hR.fin hP H3.out.1 H3.out.2.1, hR.bel.grown H3.out.2.2.2 hR.bel.size (fun j hj => ?_)⟩
          have := (own_blk hR.im.row j hj).1
          omega
        · have hpm : p.2 ∈ allM C := mem_mF (allM C) p (by rw [HMM.out.1]; exact hp)
          have hpk : p.1 = p.2.blk := (mr_mF (allM C)).key p (by rw [HMM.out.1]; exact hp)
          have hby := HBY.out p.2 hpm
          obtain ⟨pk, pi⟩ := p
          obtain ⟨blk, ba, bl, bc, bs⟩ := pi
          dsimp only at hrun hrg hen hpm hpk hby
          simp only [imc] at hrun hen
          have hbw : Below w.heap.size w x3 := (HR.out.mid hbt).2
          have HCL : Box (∀ y, Below x3.heap.size x3 y → Calls Tryz.prog 66 #[.slice ba bl bc] y fun e w' => ∃ a' c', e = .returned (.slice a' bl c') ∧ w'.ownsRow y.heap.size 5 1 (.slice a' bl c') bl (bs.map (Value.int .u8)) ∧ Below y.heap.size y w') := ⟨fun y hy => clone_any ba bl bc bs y (hby.1.below (below_to hbw hy)) hby.2.2⟩
          have HST : Box (∀ (y w' : World) (a' : Option Addr) (c' : Nat) (v' : Value), Below x3.heap.size x3 y → y.ownsRow x3.heap.size 5 1 (.slice a' bl c') bl (bs.map (Value.int .u8)) → w'.ownsRow wo.heap.size 76 2 v' (Y.length + 1) ((Y.map imc).flatten ++ [.int .u64 pk, .slice a' bl c']) → y.grownBy w' u8.ownBlock → w'.rangeLeft g r < wr.rangeLeft g r ∧ ∃ dn' Y', LrK w wo w' g r mm dn' v' Y') := ⟨fun y w' a' c' v' h1 h2 h3 h4 => by
            have hst := HR.out.step hbt (pk, ⟨blk, ba, bl, bc, bs⟩) hp hrg h1 a' c' bl rfl h2 hby.1.2.1 (by rw [hpk]; exact hby.2.1) h3 h4 (app_nn h3)
            refine ⟨?_, _, _, hst⟩
            obtain ⟨m1, _⟩ := HR.out.mid hbt
            have hry := hrg.same (h1.block g hrg.lt.1) (h1.block r hrg.lt.2.1)
            have hne := hry.ne (m1.to h1).row
            have e1 : w'.rangeLeft g r = x3.rangeLeft g r := by
              unfold World.rangeLeft
              rw [h4.block g hry.lt.1 hne.1, h4.block r hry.lt.2.1 hne.2, h1.block g hrg.lt.1, h1.block r hrg.lt.2.1]
            rw [e1]
            exact hlft⟩
          have HOW : Box (∀ y, Below x3.heap.size x3 y → y.ownsRow wo.heap.size 76 2 u8 Y.length (Y.map imc).flatten ∧ wo.heap.size ≤ y.heap.size) := ⟨fun y hy => ⟨own_to (HR.out.mid hbt).1.row hy, by have := HR.out.lo; have := hbt.size; have := hy.size; omega⟩⟩
          have HYL : Box (Y.length ≤ 1000000) := ⟨by
            have h1 := congrArg List.length HR.out.pls
            have h3 := HMM.out.2
            have h4 : dn.length ≤ mm.length := by
              obtain ⟨es, clock, since, seen, c0, de, r1, r2, r3, r4, r5, r6, r7, r8, r9, r10⟩ := HR.out.rg
              have e1 : de.length = dn.length := by simpa using congrArg List.length r10
              have e2 : es.toList.length = mm.length := by simpa using congrArg List.length r2.kv
              have hsub : de ⊆ es.toList := r7
              have := List.Nodup.length_le_of_subset (nodup_of_keys _ r9) hsub
              omega
            simp at h1
            omega⟩
          obtain ⟨G, hG⟩ : ∃ G, x3.heap.size = G := ⟨_, rfl⟩
          have HHG : Box (x3.heap.size = G) := ⟨hG⟩
          clear hby hpm hpk hp hrg hbt hlft hbw hG HBY hsz
          go_upto_region 15 with (first
            | (refine atAlloc _ ?_; refine wpList_run rfl _ _ (exec_alloc 76 rfl _ zeroIm) ?_)
            | (refine atStore _ ?_; refine wpList_newRow x3 #[.int .u64 0, .slice none 0 0] #[.int .u64 blk, .slice ba bl bc] infoIm rfl (by simp [Value.oneCell']) rfl _ _ rfl rfl rfl rfl ?_; intro x4 h1 hb1; have H4 : Box (x4.heap[x3.heap.size]? = some (.cells #[.int .u64 blk, .slice ba bl bc] 76 (0, 0)) ∧ Below x3.heap.size x3 x4) := ⟨h1, hb1⟩; clear h1 hb1))
          (try simp only [HHG.out])
          have c1 : x4.cell? ⟨G, 1, none⟩ = some (.slice ba bl bc) := by have := H4.out.1; rw [HHG.out] at this; rw [cell_of_row _ _ _ _ _ _ this]; rfl
          have HC4 : Box _ := ⟨HCL.out x4 H4.out.2⟩
          clear hrun hen HCL
          go_wp2_with (first
            | (go_at_call 66; refine HC4.out.mono ?_; rintro e x5 ⟨a', c', rfl, q1, q2⟩; have H5 : Box (x5.ownsRow x3.heap.size 5 1 (.slice a' bl c') bl (bs.map (Value.int .u8)) ∧ Below x3.heap.size x3 x5) := ⟨own_low2 q1 H4.out.2.size, below_to H4.out.2 q2⟩; have HO5 : Box _ := ⟨HOW.out x5 H5.out.2⟩; clear q1 q2)
            | (refine atBuild 76 ?_; refine wpList_run rfl _ _ (exec_built 76 [(0, .tmp 41), (1, .tmp 44)] rfl [(0, .int .u64 pk), (1, .slice a' bl c')] rfl _ (built_Im _ _ _ _)) ?_)
            | (at_builtin; refine wpList_appR 47 76 Tryz.underlying47 2 32 _ infIm rfl (by decide) rfl (.tmp 40) (.tmp 46) rfl wo.heap.size Y.length u8 (Y.map imc).flatten [.int .u64 pk, .slice a' bl c'] x5 rfl rfl rfl HO5.out.1 rfl (by simp [Value.oneCell']) HYL.out (by decide) (by decide) HO5.out.2 ?_; intro v6 x6 a1 a2; have H6 : Box (x6.rangeLeft g r < wr.rangeLeft g r ∧ ∃ dn' Y', LrK w wo x6 g r mm dn' v6 Y') := ⟨HST.out x5 x6 a' c' v6 H5.out.2 H5.out.1 a1 a2⟩; clear a1 a2))
          go_roundw
          case rel =>
            obtain ⟨_, dn', Y', h⟩ := H6.out
            exact ⟨dn', Y', ⟨h⟩⟩
          case measure => exact H6.out.1
end Go.Proofs.YtjdcccdkddnkgaaGreatDoor
