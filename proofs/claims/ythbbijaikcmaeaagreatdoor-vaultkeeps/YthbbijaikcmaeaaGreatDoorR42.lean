/-
  Memory of a law's own beside a vault; rows of bytes that are held against what a vault reads: the law's reads. And what follows it.
-/
import Derived.Test.YthbbijaikcmaeaaGreatDoorR39
import Derived.Test.YthbbijaikcmaeaaGreatDoorR41
import Derived.Test.YthbbijaikcmaeaaGreatDoorR11
namespace Go.Proofs.YthbbijaikcmaeaaGreatDoor
set_option maxRecDepth 100000
set_option linter.unusedVariables false
set_option maxRecDepth 100000
open Go.RowKit Go.Shelf Plain Go.Proofs.YthbbijaikcmaeaaGreatDoor.Shap.Plain
attribute [local go_sem] Oper.semAt_some
/-- Blocks of the law's own, beside a vault and its disk. -/
structure Mn (M : Nat → Prop) (w0 w : World) (V : Nat) (fp : Nat → Prop) : Prop where
  lt : ∀ k, M k → k < w.heap.size
  nf : ∀ k, M k → ¬ fp k
  nv : ∀ k, M k → k ≠ V
  lo : ∀ k, M k → w0.heap.size ≤ k
theorem Mn.fw {M : Nat → Prop} {w0 w w' : World} {V : Nat} {fp fp' : Nat → Prop} (h : Mn M w0 w V fp) (f : Fw (fun k => k = V) w w' fp fp') : Mn M w0 w' V fp' ∧ ∀ k, M k → w'.heap[k]? = w.heap[k]? :=
  ⟨⟨fun k hk => Nat.lt_of_lt_of_le (h.lt k hk) f.size, fun k hk => f.k k (h.lt k hk) (h.nf k hk), h.nv, h.lo⟩, fun k hk => f.block (h.lt k hk) (h.nf k hk) (h.nv k hk)⟩
theorem Mn.below {M : Nat → Prop} {w0 w w' : World} {V : Nat} {fp : Nat → Prop} (h : Mn M w0 w V fp) (hb : Below w.heap.size w w') (hi : ∀ k, fp k → k < w.heap.size) (hV : V < w.heap.size) (h0 : w0.heap.size ≤ w.heap.size) : Mn (fun k => M k ∨ w.heap.size ≤ k ∧ k < w'.heap.size) w0 w' V fp := by
  refine ⟨fun k hk => ?_, fun k hk => ?_, fun k hk => ?_, fun k hk => ?_⟩
  · rcases hk with hk | hk
    · exact Nat.lt_of_lt_of_le (h.lt k hk) hb.size
    · exact hk.2
  · rcases hk with hk | hk
    · exact h.nf k hk
    · exact fun hf => by have := hi k hf; omega
  · rcases hk with hk | hk
    · exact h.nv k hk
    · omega
  · rcases hk with hk | hk
    · exact h.lo k hk
    · omega
theorem Mn.set {M : Nat → Prop} {w0 w w' : World} {V G : Nat} {fp : Nat → Prop} (h : Mn M w0 w V fp) (hb : But G w w') : Mn M w0 w' V fp := ⟨fun k hk => Nat.lt_of_lt_of_le (h.lt k hk) hb.size, h.nf, h.nv, h.lo⟩
theorem bytes_same {w w' : World} {a : Option Addr} {len : Nat} {L : List Int} (h : Bytes w a len L) (hs : ∀ ad, a = some ad → w'.heap[ad.block]? = w.heap[ad.block]?) (hz : w.heap.size ≤ w'.heap.size) : Bytes w' a len L := by
  refine ⟨h.1, h.2.1, fun hp => ?_⟩
  obtain ⟨b, o, e, hlt, hc⟩ := h.2.2 hp
  refine ⟨b, o, e, Nat.lt_of_lt_of_le hlt hz, fun i hi => ?_⟩
  have hq : w'.cell? ⟨b, o + i, none⟩ = w.cell? ⟨b, o + i, none⟩ := World.cell?_of_block (hs ⟨b, o, none⟩ e)
  rw [hq]
  exact hc i hi
/-- Rows of bytes in blocks of one's own. -/
def nwc (A : List (Option Addr × Nat)) : Array Value := (A.map (fun x => Value.slice x.1 160 x.2)).toArray
structure Nw (w : World) (M : Nat → Prop) (g : Nat) (A : List (Option Addr × Nat)) (F : Nat → List Int) : Prop where
  row : w.heap[g]? = some (.cells (nwc A) 38 (0, 0))
  len : A.length = 20
  mg : M g
  byt : ∀ i (h : i < A.length), Bytes w A[i].1 160 (F i)
  own : ∀ i (h : i < A.length), ∀ ad, A[i].1 = some ad → M ad.block
  typ : ∀ i (h : i < A.length), ∀ ad, A[i].1 = some ad → ∃ cs, w.heap[ad.block]? = some (.cells cs 5 (0, 0))
theorem Nw.same {w w' : World} {M : Nat → Prop} {g : Nat} {A : List (Option Addr × Nat)} {F : Nat → List Int} (h : Nw w M g A F) (hs : ∀ k, M k → w'.heap[k]? = w.heap[k]?) (hz : w.heap.size ≤ w'.heap.size) : Nw w' M g A F :=
  ⟨(hs g h.mg).trans h.row, h.len, h.mg, fun i hi => bytes_same (h.byt i hi) (fun ad e => hs _ (h.own i hi ad e)) hz, h.own, fun i hi ad e => by rw [hs _ (h.own i hi ad e)]; exact h.typ i hi ad e⟩
theorem Nw.more {w : World} {M M' : Nat → Prop} {g : Nat} {A : List (Option Addr × Nat)} {F : Nat → List Int} (h : Nw w M g A F) (hs : ∀ k, M k → M' k) : Nw w M' g A F :=
  ⟨h.row, h.len, hs _ h.mg, h.byt, fun i hi ad e => hs _ (h.own i hi ad e), h.typ⟩
theorem nwc_get (A : List (Option Addr × Nat)) (i : Nat) (h : i < A.length) : (nwc A)[i]? = some (.slice A[i].1 160 A[i].2) := by simp [nwc, h]
theorem nwc_set (A : List (Option Addr × Nat)) (i : Nat) (x : Option Addr × Nat) : (nwc A).setIfInBounds i (.slice x.1 160 x.2) = nwc (A.set i x) := by
  unfold nwc
  rw [List.setIfInBounds_toArray, List.map_set]
/-- One row is another one now. -/
theorem Nw.put {w : World} {M : Nat → Prop} {g : Nat} {A : List (Option Addr × Nat)} {F : Nat → List Int} (h : Nw w M g A F) (i : Nat) (a : Option Addr) (c : Nat) (L : List Int) (hB : Bytes w a 160 L) (ho : ∀ ad, a = some ad → M ad.block ∧ ∃ cs, w.heap[ad.block]? = some (.cells cs 5 (0, 0))) :
    Nw (w.setCell ⟨g, i, none⟩ (.slice a 160 c)) M g (A.set i (a, c)) (fun j => if j = i then L else F j) := by
  have hg : ∀ (b : Nat), (∃ cs, w.heap[b]? = some (.cells cs 5 (0, 0))) → b ≠ g := by
    rintro b ⟨cs, hb⟩ rfl
    rw [h.row] at hb
    simp only [Option.some.injEq, Obj.cells.injEq] at hb
    exact absurd hb.2.1 (by decide)
  have hk : ∀ (b : Nat), (∃ cs, w.heap[b]? = some (.cells cs 5 (0, 0))) → (w.setCell ⟨g, i, none⟩ (.slice a 160 c)).heap[b]? = w.heap[b]? := fun b hb => heap_setCell_other w ⟨g, i, none⟩ _ _ (hg b hb)
  refine ⟨?_, by rw [List.length_set]; exact h.len, h.mg, fun j hj => ?_, fun j hj ad e => ?_, fun j hj ad e => ?_⟩
  · rw [heap_setCell_same w g i _ _ _ h.row, ← nwc_set A i (a, c)]
  · rw [List.getElem_set]
    by_cases hji : j = i
    · rw [if_pos hji.symm, if_pos hji]
      exact bytes_same hB (fun ad e => hk _ (ho ad e).2) (by simp)
    · rw [if_neg (fun e => hji e.symm), if_neg hji]
      rw [List.length_set] at hj
      exact bytes_same (h.byt j hj) (fun ad e => hk _ (h.typ j hj ad e)) (by simp)
  · rw [List.getElem_set] at e
    split at e
    · exact (ho ad e).1
    · rw [List.length_set] at hj
      exact h.own j hj ad e
  · rw [List.getElem_set] at e
    split at e
    · rw [hk _ (ho ad e).2]; exact (ho ad e).2
    · rw [List.length_set] at hj
      rw [hk _ (h.typ j hj ad e)]
      exact h.typ j hj ad e
theorem exec_idxNw {op : Oper} {ρ : Operand → Value} {w' : World} (x y : Operand) (ho : op.op = .indexAddr 37 x y) (b len cap j : Nat) (hx : ρ x = .slice (some ⟨b, 0, none⟩) len cap) (hy : ρ y = .int .i64 (j : Int)) (hj : j < len) :
    (execOp ρ op).run Tryz.prog w' = .ok (.value (.pointer (some ⟨b, 0 + j * 1, none⟩))) w' := Rec.exec_idxT 37 38 Tryz.underlying37 1 (by kernel_rfl) x y ho b 0 len cap j hx hy hj
theorem exec_idxNwU {op : Oper} {ρ : Operand → Value} {w' : World} (x y : Operand) (ho : op.op = .indexAddr 37 x y) (b len cap j : Nat) (hx : ρ x = .slice (some ⟨b, 0, none⟩) len cap) (hy : ρ y = .int .u64 (j : Int)) (hj : j < len) :
    (execOp ρ op).run Tryz.prog w' = .ok (.value (.pointer (some ⟨b, 0 + j * 1, none⟩))) w' := by
  have hc : (0 : Int) ≤ (j : Int) ∧ (j : Int) < (len : Int) := by omega
  have hs : (sizeOf 38).run Tryz.prog w' = .ok 1 w' := by
    have hi : (Tryz.prog.info? 38).map (·.size) = some 1 := by kernel_rfl
    cases hq : Tryz.prog.info? 38 with
    | none => simp [hq] at hi
    | some i =>
      have h1 : i.size = 1 := by simpa [hq] using hi
      simp [sizeOf, typeInfo, hq, h1]
  unfold execOp
  simp [ho, hx, hy, Instr.indexAt, asIntOf, Sem.run_bind, run_underlying Tryz.underlying37, hc, Addr.add_mid]
  intro hh; omega
theorem exec_strNo {o : Oper} {ρ : Operand → Value} {w' : World} (x y : Operand) (ty : TypeId) (ho : o.op = .binOp .neq 9 x y ty) (A : List Int) (hA : Byt A) (hx : ρ x = .string (strOfNums A)) (hy : ρ y = .string (strOfNums A)) :
    (execOp ρ o).run Tryz.prog w' = .ok (.value (.bool false)) w' := by
  rw [Rec.exec_strN x y ty ho A A hA hA hx hy]
  simp
/-- What reads is told of the vault and its disk, and leaves of them. -/
structure Rds (w0 w : World) (V D : Nat) (v : Vt) (sa : Option Addr) (sc : Nat) (d : Disk.Dk) (f : Nat → List Int) (fp : Nat → Prop) (k : Nat) (wr : World) (fp' : Nat → Prop) (d' : Disk.Dk) : Prop where
  vc : VC w0 wr V D fp' v d' sa sc
  good : Good v.key v.n d' f v.top
  sm : Sm d d'
  ops : d'.ops.length ≤ d.ops.length + 6 * k
  fw : Fw No w wr fp fp'
theorem Rds.step {w0 w wr : World} {V D : Nat} {v : Vt} {sa : Option Addr} {sc : Nat} {d d' d2 : Disk.Dk} {f : Nat → List Int} {fp fp' fp2 : Nat → Prop} {k j : Nat} {w2 : World} (h : Rds w0 w V D v sa sc d f fp k wr fp' d') (hj : readM (Yk v.key) Xd v.n j (topL v.n) d' v.top = (d2, 0, f j)) (hg : Good v.key v.n d2 f v.top) (hv : VC w0 w2 V D fp2 v d2 sa sc) (hf : Fw No wr w2 fp' fp2) : Rds w0 w V D v sa sc d f fp (k + 1) w2 fp2 d2 := by
  have h1 := sm_read v.key v.n j (topL v.n) d' v.top
  have h2 := (gw_read v.key v.n j (topL v.n) d' v.top).ops
  rw [hj] at h1 h2
  have h3 := (topL_bd v.n h.vc.ok.lo h.vc.ok.hi).2.1
  have h4 := h.ops
  simp only at h2
  exact ⟨hv, hg, h.sm.trans h1, by omega, h.fw.trans hf⟩
set_option maxHeartbeats 4000000 in
theorem reads_v {w0 w : World} {V D : Nat} {fp : Nat → Prop} {v : Vt} {d : Disk.Dk} {sa : Option Addr} {sc : Nat} (C : VC w0 w V D fp v d sa sc) (f : Nat → List Int) (hG : Good v.key v.n d f v.top) (hn : v.n ≤ 20) (M : Nat → Prop) (hM : Mn M w0 w V fp) (g : Nat) (A : List (Option Addr × Nat)) (F : Nat → List Int) (hN : Nw w M g A F) (he : ∀ i, i < v.n → F i = f i) (hop : d.ops.length < 900000) (hup : d.uw.length < 1000000) :
    Calls Tryz.prog 14 #[.pointer (some ⟨V, 0, none⟩), .slice (some ⟨g, 0, none⟩) 20 20, .int .i64 (v.n : Int)] w fun e w' => e = .returned (.bool true) ∧ ∃ fp' d', Rds w0 w V D v sa sc d f fp 20 w' fp' d' := by
  obtain ⟨n, hvn⟩ : ∃ n, v.n = n := ⟨_, rfl⟩
  have HV : Box (v.n = n ∧ n ≤ 20 ∧ d.ops.length < 900000 ∧ d.uw.length < 1000000) := ⟨hvn, by omega, hop, hup⟩
  have H0 : Box (Rds w0 w V D v sa sc d f fp 0 w fp d) := ⟨⟨C, hG, Sm.refl d, by omega, Fw.refl _ _ _⟩⟩
  have HN : Box (∀ wr fp', Fw No w wr fp fp' → Nw wr M g A F) := ⟨fun wr fp' hf => hN.same (hM.fw (hf.wider (fun _ _ h => h.elim))).2 hf.size⟩
  have HE : Box (∀ i, i < n → F i = f i) := ⟨fun i hi => he i (by omega)⟩
  have HRD : Box (∀ k, k < n → ∀ wr fp' d', Rds w0 w V D v sa sc d f fp k wr fp' d' → Calls Tryz.prog 18 #[.pointer (some ⟨V, 0, none⟩), .int .u64 (k : Int)] wr fun e w' => ∃ fp2 d2 a, e = .returned (.tuple #[.slice a 160 160, .int .i64 0]) ∧ Rds w0 w V D v sa sc d f fp (k + 1) w' fp2 d2 ∧ Bytes w' a 160 (f k)) := ⟨fun k hk wr fp' d' h => by
    obtain ⟨d2, e1, g1, l1⟩ := good_read h.good h.vc.ok.lo h.vc.ok.hi k (by omega)
    have hs := h.sm
    have ho := h.ops
    have := read_ok h.vc k (by omega) (by omega) (by rw [hs.1]; exact hup)
    rw [e1] at this
    refine this.mono ?_
    rintro e w' ⟨fp2, a, q1, q2, q3, q4⟩
    obtain ⟨Kk, c1, _⟩ := h.good.is
    have hl : (f k).length = 160 := (c1.okf k).1
    simp only [hl] at q3 q4
    exact ⟨fp2, d2, a, q3, h.step e1 g1 q1 q2, q4⟩⟩
  have HRR : Box (∀ wr fp' d', Rds w0 w V D v sa sc d f fp n wr fp' d' → Calls Tryz.prog 18 #[.pointer (some ⟨V, 0, none⟩), .int .u64 (n : Int)] wr fun e w' => e = .returned (.tuple #[.slice none 0 0, .int .i64 12]) ∧ Below wr.heap.size wr w') := ⟨fun wr fp' d' h => read_range h.vc (n : Int) (by rw [hvn]; exact Int.le_refl _)⟩
  rw [hvn]
  clear hvn C hG hn hM hN he hop hup
  go_enter Tryz.func14, Tryz.ntmps14
  have hn20 : n ≤ 20 := HV.out.2.1
  have hwn : IntKind.u64.wrap (n : Int) = (n : Int) := by rw [IntKind.wrap_u64]; omega
  go_upto_region 2 with fail
  go_loopw [7] (fun i wr => ∃ (k : Nat) (fp' : Nat → Prop) (d' : Disk.Dk), k ≤ n ∧ i = .int .i64 (k : Int) ∧ Box (Rds w0 w V D v sa sc d f fp k wr fp' d')) (fun i _ => n - (intOf i).toNat)
  case atStart => exact ⟨0, fp, d, Nat.zero_le _, rfl, H0⟩
  case round =>
    clear H0
    obtain ⟨k, fp', d', hk, rfl, HG⟩ := hrel
    by_cases hlt : k < n
    · have hlt1 : decide ((k : Int) < (n : Int)) = true := by simp; omega
      have hwk : IntKind.u64.wrap (k : Int) = (k : Int) := by rw [IntKind.wrap_u64]; omega
      have hw4 : IntKind.i64.wrap ((k : Int) + 1) = ((k + 1 : Nat) : Int) := by rw [IntKind.wrap_i64]; omega
      have HC := HRD.out k hlt wr fp' d' HG.out
      have HC : Box _ := ⟨HC⟩
      have HML : Box (k < n ∧ k < 20) := ⟨hlt, by omega⟩
      go_upto_region 5 with (go_at_call 18; refine HC.out.mono ?_; rintro e x1 ⟨fp2, d2, ba, rfl, g1, g2⟩; have H1 : Box (Rds w0 w V D v sa sc d f fp (k + 1) x1 fp2 d2 ∧ Bytes x1 ba 160 (f k)) := ⟨g1, g2⟩; clear g1 g2)
      clear HC HG
      obtain ⟨ra', hra⟩ : ∃ x, A[k]'(by rw [(HN.out x1 fp2 H1.out.1.fw).len]; exact HML.out.2) = x := ⟨_, rfl⟩
      obtain ⟨na, nc⟩ := ra'
      obtain ⟨fk, hfk⟩ : ∃ x, f k = x := ⟨_, rfl⟩
      have HC0 : Box (∀ x, Below x1.heap.size x1 x → x.cell? ⟨g, 0 + k * 1, none⟩ = some (.slice na 160 nc) ∧ Bytes x na 160 fk ∧ Bytes x ba 160 fk ∧ Byt fk) := ⟨fun x hx => by
        have h := HN.out x1 fp2 H1.out.1.fw
        have hkA : k < A.length := by rw [h.len]; exact HML.out.2
        have hgl : g < x1.heap.size := (Array.getElem?_eq_some_iff.1 h.row).1
        refine ⟨?_, ?_, by rw [← hfk]; exact H1.out.2.below hx, by rw [← hfk]; exact H1.out.2.2.1⟩
        · have e : (0 + k * 1) = k := by omega
          rw [e, cell_of_row _ _ _ _ _ _ ((hx.block g hgl).trans h.row), nwc_get A k hkA, hra]
        · have hb := h.byt k hkA
          rw [hra, HE.out k HML.out.1, hfk] at hb
          exact hb.below hx⟩
      have H2 : Box (Rds w0 w V D v sa sc d f fp (k + 1) x1 fp2 d2) := ⟨H1.out.1⟩
      clear H1 hra hfk
      refine Disk.begin_keep (S := fun x => Below x1.heap.size x1 x) (by kernel_rfl) (fun wd hwd => ?_)
      have hS : Below x1.heap.size x1 wd := by rw [hwd]; exact (Below.refl _ _).drew
      clear hwd
      refine take_s (i := 0) (v := ?_) rfl (by kernel_rfl) (by kernel_rfl) (by kernel_rfl) (fun _ _ _ h => h) (by rfl) ?_ hS ?_
      rotate_left
      · intro w' hLat; clear hLat; go_simp <;> with_reducible rfl
      try simp only [Act.put, List.setIfInBounds_toArray, List.set_cons_zero, List.set_cons_succ, List.getElem_toArray, List.getElem_cons_zero]
      refine take_s (i := 1) (v := ?_) rfl (by kernel_rfl) (by kernel_rfl) (by kernel_rfl) (fun _ _ _ h => h) (by rfl) ?_ hS ?_
      rotate_left
      · intro w' hLat; clear hLat; go_simp <;> with_reducible rfl
      try simp only [Act.put, List.setIfInBounds_toArray, List.set_cons_zero, List.set_cons_succ, List.getElem_toArray, List.getElem_cons_zero, List.getElem_cons_succ]
      refine take_s (i := 2) (v := ?_) rfl (by kernel_rfl) (by kernel_rfl) (by kernel_rfl) (fun _ _ _ h => h) (by rfl) ?_ hS ?_
      rotate_left
      · intro w' hLat; clear hLat; go_simp <;> with_reducible rfl
      try simp only [Act.put, List.setIfInBounds_toArray, List.set_cons_zero, List.set_cons_succ, List.getElem_toArray, List.getElem_cons_zero, List.getElem_cons_succ]
      refine take_s (i := 3) (v := ?_) rfl (by kernel_rfl) (by kernel_rfl) (by kernel_rfl) (fun _ _ _ h => h) (by rfl) ?_ hS ?_
      rotate_left
      · intro w' hLat; clear hLat; go_simp <;> with_reducible rfl
      try simp only [Act.put, List.setIfInBounds_toArray, List.set_cons_zero, List.set_cons_succ, List.getElem_toArray, List.getElem_cons_zero, List.getElem_cons_succ]
      refine take_s (i := 4) (v := .string (strOfNums fk)) rfl (by kernel_rfl) (by kernel_rfl) (by kernel_rfl) (fun _ _ _ h => h) (by rfl) (fun w' hLat => exec_convG _ rfl rfl (HC0.out w' hLat).2.2.1) hS ?_
      try simp only [Act.put, List.setIfInBounds_toArray, List.set_cons_zero, List.set_cons_succ, List.getElem_toArray, List.getElem_cons_zero, List.getElem_cons_succ]
      refine take_s (i := 5) (v := ?_) rfl (by kernel_rfl) (by kernel_rfl) (by kernel_rfl) (fun _ _ _ h => h) (by rfl) ?_ hS ?_
      rotate_left
      · intro w' hLat; clear hLat; go_simp <;> with_reducible rfl
      try simp only [Act.put, List.setIfInBounds_toArray, List.set_cons_zero, List.set_cons_succ, List.getElem_toArray, List.getElem_cons_zero, List.getElem_cons_succ]
      refine take_s (i := 6) (v := ?_) rfl (by kernel_rfl) (by kernel_rfl) (by kernel_rfl) (fun _ _ _ h => h) (by rfl) ?_ hS ?_
      rotate_left
      · intro w' hLat; clear hLat; go_simp <;> with_reducible rfl
      try simp only [Act.put, List.setIfInBounds_toArray, List.set_cons_zero, List.set_cons_succ, List.getElem_toArray, List.getElem_cons_zero, List.getElem_cons_succ]
      refine take_s (i := 7) (v := .pointer (some ⟨g, 0 + k * 1, none⟩)) rfl (by kernel_rfl) (by kernel_rfl) (by kernel_rfl) (fun _ _ _ h => h) (by rfl) (fun w' hLat => exec_idxNw _ _ rfl g 20 20 k rfl rfl HML.out.2) hS ?_
      try simp only [Act.put, List.setIfInBounds_toArray, List.set_cons_zero, List.set_cons_succ, List.getElem_toArray, List.getElem_cons_zero, List.getElem_cons_succ]
      refine take_s (i := 8) (v := .slice na 160 nc) rfl (by kernel_rfl) (by kernel_rfl) (by kernel_rfl) (fun _ _ _ h => h) (by rfl) (fun w' hLat => Disk.exec_load1 38 _ _ rfl Tryz.underlying38 rfl _ rfl _ (HC0.out w' hLat).1) hS ?_
      try simp only [Act.put, List.setIfInBounds_toArray, List.set_cons_zero, List.set_cons_succ, List.getElem_toArray, List.getElem_cons_zero, List.getElem_cons_succ]
      refine take_s (i := 9) (v := .string (strOfNums fk)) rfl (by kernel_rfl) (by kernel_rfl) (by kernel_rfl) (fun _ _ _ h => h) (by rfl) (fun w' hLat => exec_convG _ rfl rfl (HC0.out w' hLat).2.1) hS ?_
      try simp only [Act.put, List.setIfInBounds_toArray, List.set_cons_zero, List.set_cons_succ, List.getElem_toArray, List.getElem_cons_zero, List.getElem_cons_succ]
      refine take_s (i := 10) (v := .bool false) rfl (by kernel_rfl) (by kernel_rfl) (by kernel_rfl) (fun _ _ _ h => h) (by rfl) (fun w' hLat => exec_strNo _ _ _ rfl fk (HC0.out w' hLat).2.2.2 rfl rfl) hS ?_
      try simp only [Act.put, List.setIfInBounds_toArray, List.set_cons_zero, List.set_cons_succ, List.getElem_toArray, List.getElem_cons_zero, List.getElem_cons_succ]
      refine take_s (i := 11) (v := ?_) rfl (by kernel_rfl) (by kernel_rfl) (by kernel_rfl) (fun _ _ _ h => h) (by rfl) ?_ hS ?_
      rotate_left
      · intro w' hLat; clear hLat; go_simp <;> with_reducible rfl
      try simp only [Act.put, List.setIfInBounds_toArray, List.set_cons_zero, List.set_cons_succ, List.getElem_toArray, List.getElem_cons_zero, List.getElem_cons_succ]
      refine wpAnyH_done (by kernel_rfl) ?_ _
      have H3 : Box (Rds w0 w V D v sa sc d f fp (k + 1) wd fp2 d2) := ⟨H2.out.vc.below hS, H2.out.good, H2.out.sm, H2.out.ops, H2.out.fw.trans (Fw.below No fp2 hS)⟩
      clear hS HC0 H2
      go_wp2
      go_roundw
      case rel => exact ⟨k + 1, fp2, d2, HML.out.1, by go_num, H3⟩
      case measure => simp [intOf]; omega
    · have hkn : k = n := by omega
      have hlt1 : decide ((k : Int) < (n : Int)) = false := by simp; omega
      have HC : Box (Calls Tryz.prog 18 #[.pointer (some ⟨V, 0, none⟩), .int .u64 (n : Int)] wr fun e w' => e = .returned (.tuple #[.slice none 0 0, .int .i64 12]) ∧ Below wr.heap.size wr w') := ⟨HRR.out wr fp' d' (hkn ▸ HG.out)⟩
      have HF : Box (∀ x, Below wr.heap.size wr x → ∃ fp' d', Rds w0 w V D v sa sc d f fp 20 x fp' d') := ⟨fun x hx => ⟨fp', d', HG.out.vc.below hx, HG.out.good, HG.out.sm, by have := HG.out.ops; omega, HG.out.fw.trans (Fw.below No fp' hx)⟩⟩
      clear HG hkn
      go_wp2_with (go_at_call 18; refine HC.out.mono ?_; rintro e x1 ⟨rfl, hb⟩; have H1 : Box (Below wr.heap.size wr x1) := ⟨hb⟩; clear hb)
      go_ret
      exact ⟨rfl, HF.out x1 H1.out⟩
end Go.Proofs.YthbbijaikcmaeaaGreatDoor
namespace Go.Proofs.YthbbijaikcmaeaaGreatDoor
set_option maxRecDepth 100000
set_option linter.unusedVariables false
open Go.RowKit Go.Shelf Plain Go.Proofs.YthbbijaikcmaeaaGreatDoor.Shap.Plain
theorem exec_make20 {o : Oper} {ρ : Operand → Value} {w : World} (l c : Operand) (ho : o.op = .makeSlice 37 l c) (hl : ρ l = .int .i64 20) (hc : ρ c = .int .i64 20) :
    (execOp ρ o).run Tryz.prog w = .ok (.value (.slice (some ⟨w.heap.size, 0, none⟩) 20 20)) (w.alloc (.cells (Disk.nils 20).toArray 38)) := by
  have := Disk.exec_make (P := Tryz.prog) (o := o) (ρ := ρ) (w := w) 37 38 l c ho (.slice none 0 0) 1 24 Tryz.underlying37 Disk.infoRow 20 hl hc (by decide) (by decide)
  have e : madeCells (Value.slice none 0 0).cells (20 * 1) = (Disk.nils 20).toArray := Disk.made_nil 20
  rw [e] at this
  exact this
/-- Rows of noughts, so far. -/
structure Ni (x3 wr : World) (g k : Nat) (A : List (Option Addr × Nat)) : Prop where
  row : wr.heap[g]? = some (.cells (A.map (fun x => Value.slice x.1 160 x.2) ++ Disk.nils (20 - k)).toArray 38 (0, 0))
  len : A.length = k
  byt : ∀ i (h : i < A.length), Bytes wr A[i].1 160 y160
  own : ∀ i (h : i < A.length), ∀ ad, A[i].1 = some ad → x3.heap.size ≤ ad.block ∧ ∃ cs, wr.heap[ad.block]? = some (.cells cs 5 (0, 0))
  lo : x3.heap.size ≤ g
  bel : Below x3.heap.size x3 wr
theorem Ni.cell {x3 wr : World} {g k : Nat} {A : List (Option Addr × Nat)} (h : Ni x3 wr g k A) (hk : k < 20) (o : Obj) : (wr.alloc o).cell? ⟨g, k, none⟩ = some (.slice none 0 0) ∧ (wr.alloc o).frozen? ⟨g, k, none⟩ = false := by
  have hb : Below wr.heap.size wr (wr.alloc o) := (Below.refl _ _).alloc (Nat.le_refl _) _
  have hr := (hb.block g (Array.getElem?_eq_some_iff.1 h.row).1).trans h.row
  refine ⟨?_, frozen_of_row _ _ _ _ _ hr⟩
  rw [cell_of_row _ _ _ _ _ _ hr]
  have e : 20 - k = (20 - (k + 1)) + 1 := by omega
  have hl : (A.map (fun x => Value.slice x.1 160 x.2)).length = k := by rw [List.length_map]; exact h.len
  rw [e, Disk.nils_succ]
  simp [h.len]
theorem Ni.step {x3 wr : World} {g k : Nat} {A : List (Option Addr × Nat)} (h : Ni x3 wr g k A) (hk : k < 20) :
    Ni x3 ((wr.alloc (.cells (u8s y160) 5)).setCell ⟨g, k, none⟩ (.slice (some ⟨wr.heap.size, 0, none⟩) 160 160)) g (k + 1) (A ++ [(some ⟨wr.heap.size, 0, none⟩, 160)]) := by
  obtain ⟨wx, hwx⟩ : ∃ x, wr.alloc (.cells (u8s y160) 5) = x := ⟨_, rfl⟩
  have hb : Below wr.heap.size wr wx := by rw [← hwx]; exact (Below.refl _ _).alloc (Nat.le_refl _) _
  have hn : wx.heap[wr.heap.size]? = some (.cells (u8s y160) 5 (0, 0)) := by rw [← hwx]; exact al_at rfl
  rw [hwx]
  have hgl := (Array.getElem?_eq_some_iff.1 h.row).1
  have hr := (hb.block g hgl).trans h.row
  have hl : (A.map (fun x => Value.slice x.1 160 x.2)).length = k := by rw [List.length_map]; exact h.len
  have hty : ∀ (b : Nat), (∃ cs, wx.heap[b]? = some (.cells cs 5 (0, 0))) → (wx.setCell ⟨g, k, none⟩ (.slice (some ⟨wr.heap.size, 0, none⟩) 160 160)).heap[b]? = wx.heap[b]? := by
    rintro b ⟨cs, hc⟩
    refine heap_setCell_other wx ⟨g, k, none⟩ _ _ ?_
    rintro rfl
    rw [hr] at hc
    simp only [Option.some.injEq, Obj.cells.injEq] at hc
    exact absurd hc.2.1 (by decide)
  have hold : ∀ i (hi : i < A.length), ∀ ad, A[i].1 = some ad → ∃ cs, wx.heap[ad.block]? = some (.cells cs 5 (0, 0)) := fun i hi ad e => by
    obtain ⟨_, cs, hc⟩ := h.own i hi ad e
    exact ⟨cs, (hb.block _ (Array.getElem?_eq_some_iff.1 hc).1).trans hc⟩
  refine ⟨?_, by simp [h.len], fun i hi => ?_, fun i hi ad e => ?_, h.lo, below_set (below_to h.bel hb) h.lo _⟩
  · rw [heap_setCell_same wx g k _ _ _ hr]
    have e : 20 - k = (20 - (k + 1)) + 1 := by omega
    rw [e, Disk.nils_succ, List.setIfInBounds_toArray, List.set_append_right _ _ (by omega), hl, Nat.sub_self, List.set_cons_zero]
    simp
  · by_cases hiA : i < A.length
    · rw [List.getElem_append_left hiA]
      exact bytes_same ((h.byt i hiA).below hb) (fun ad e => hty _ (hold i hiA ad e)) (by simp)
    · have : i = A.length := by simp at hi; omega
      subst this
      simp only [List.getElem_concat_length]
      have hB : Bytes wx (some ⟨wr.heap.size, 0, none⟩) 160 y160 := bytes_of_row (X := y160) (t := 5) (fr := (0, 0)) (byt_zeros 160) hn
      exact bytes_same hB (fun ad e => hty _ (by cases e; exact ⟨_, hn⟩)) (by simp)
  · by_cases hiA : i < A.length
    · rw [List.getElem_append_left hiA] at e
      rw [hty _ (hold i hiA ad e)]
      exact ⟨(h.own i hiA ad e).1, hold i hiA ad e⟩
    · have : i = A.length := by simp at hi; omega
      subst this
      simp only [List.getElem_concat_length, Option.some.injEq] at e
      subst e
      rw [hty _ ⟨_, hn⟩]
      exact ⟨h.bel.size, _, hn⟩
theorem Ni.done {x3 wr : World} {g : Nat} {A : List (Option Addr × Nat)} (h : Ni x3 wr g 20 A) : Nw wr (fun b => x3.heap.size ≤ b ∧ b < wr.heap.size) g A (fun _ => y160) := by
  refine ⟨?_, h.len, ⟨h.lo, (Array.getElem?_eq_some_iff.1 h.row).1⟩, h.byt, fun i hi ad e => ?_, fun i hi ad e => (h.own i hi ad e).2⟩
  · have := h.row
    simpa [nwc, Disk.nils] using this
  · obtain ⟨h1, cs, h2⟩ := h.own i hi ad e
    exact ⟨h1, (Array.getElem?_eq_some_iff.1 h2).1⟩
/-- What rows hold behind the first k images. -/
def nF (F0 : Nat → List Int) (Y : List Rec.Im) (k : Nat) : Nat → List Int := newF F0 (lastB ((Y.take k).map Rec.pl))
theorem newF_snoc (F0 : Nat → List Int) (L : List (Int × List Int)) (z : Nat) (b : List Int) : newF F0 (lastB (L ++ [((z : Int), b)])) = fun j => if j = z then b else newF F0 (lastB L) j := by
  funext j
  unfold newF
  rw [lastB_snoc]
  by_cases h : j = z
  · subst h
    simp
  · rw [if_neg (fun e : (z : Int) = (j : Int) => h (by omega)), if_neg h]
theorem nF_succ (F0 : Nat → List Int) (Y : List Rec.Im) (k : Nat) (hk : k < Y.length) (z : Nat) (hz : Y[k].blk = (z : Int)) : nF F0 Y (k + 1) = fun j => if j = z then Y[k].bs else nF F0 Y k j := by
  unfold nF
  rw [List.take_succ_eq_append_getElem hk, List.map_append, List.map_cons, List.map_nil, show Rec.pl Y[k] = ((z : Int), Y[k].bs) by rw [← hz]; rfl, newF_snoc]
theorem nF_zero (F0 : Nat → List Int) (Y : List Rec.Im) : nF F0 Y 0 = F0 := by
  funext j
  simp [nF, newF, lastB]
theorem nF_set (F0 : Nat → List Int) (Y : List Rec.Im) (k : Nat) (m : Rec.Im) : nF F0 (Y.set k m) k = nF F0 Y k := by
  unfold nF
  rw [List.take_set_of_le (Nat.le_refl k)]
theorem own_typ {w : World} {B : Nat} {m : Rec.Im} (h : Rec.OIm w B m) : ∀ ad, m.ba = some ad → ∃ cs, w.heap[ad.block]? = some (.cells cs 5 (0, 0)) := by
  intro ad e
  have ho := h.own
  rw [e] at ho
  rcases ho.2 with ⟨h3, _⟩ | ⟨g', cap', cur, h3, hb, hg', _⟩
  · cases h3
  · simp only [Value.slice.injEq, Option.some.injEq, true_and] at h3
    obtain ⟨rfl, _⟩ := h3
    exact ⟨_, hg'⟩
theorem oimgs_other {w : World} {B : Nat} {v : Value} {X : List Rec.Im} (h : Rec.OImgs w B v X) {g : Nat} {cs : Array Value} (hg : w.heap[g]? = some (.cells cs 38 (0, 0))) (i : Nat) (x : Value) : Rec.OImgs (w.setCell ⟨g, i, none⟩ x) B v X := by
  have key : ∀ (e : TypeId) (k : Nat), e ≠ 38 → (∃ c, w.heap[k]? = some (.cells c e (0, 0))) → (w.setCell ⟨g, i, none⟩ x).heap[k]? = w.heap[k]? := by
    rintro e k hne ⟨c, hc⟩
    refine heap_setCell_other w ⟨g, i, none⟩ _ _ ?_
    rintro rfl
    rw [hg] at hc
    simp only [Option.some.injEq, Obj.cells.injEq] at hc
    exact hne hc.2.1.symm
  refine ⟨Rec.own_same h.row (fun k hk => key _ k (by decide) (Rec.own_blk h.row k hk).2), fun m hm => ?_⟩
  have hm' := h.byt m hm
  exact ⟨Rec.own_same hm'.own (fun k hk => key _ k (by decide) (Rec.own_blk hm'.own k hk).2), hm'.byt, hm'.num⟩
theorem nw_two {w : World} {M : Nat → Prop} {g B : Nat} {A : List (Option Addr × Nat)} {F0 : Nat → List Int} {Z : List Rec.Im} {k : Nat} (h : Nw w M g A (nF F0 Z k)) (hk : k < Z.length) (hbl : Z[k].bl = 160) (ho : Rec.OIm w B Z[k]) (hM : ∀ ad, Z[k].ba = some ad → M ad.block) (z : Nat) (hz : Z[k].blk = (z : Int)) :
    Nw (w.setCell ⟨g, z, none⟩ (.slice Z[k].ba 160 Z[k].bc)) M g (A.set z (Z[k].ba, Z[k].bc)) (nF F0 Z (k + 1)) := by
  have hB := ho.byi.1
  rw [hbl] at hB
  rw [nF_succ F0 Z k hk z hz]
  exact h.put z Z[k].ba Z[k].bc Z[k].bs hB (fun ad e => ⟨hM ad e, own_typ ho ad e⟩)
theorem nw_other {w : World} {M : Nat → Prop} {g : Nat} {A : List (Option Addr × Nat)} {F : Nat → List Int} (h : Nw w M g A F) (G i : Nat) (x : Value) (hG : ∃ cs, w.heap[G]? = some (.cells cs 41 (0, 0))) : Nw (w.setCell ⟨G, i, none⟩ x) M g A F := by
  obtain ⟨cs, hG⟩ := hG
  have key : ∀ (e : TypeId) (k : Nat), e ≠ 41 → (∃ c, w.heap[k]? = some (.cells c e (0, 0))) → (w.setCell ⟨G, i, none⟩ x).heap[k]? = w.heap[k]? := by
    rintro e k hne ⟨c, hc⟩
    refine heap_setCell_other w ⟨G, i, none⟩ _ _ ?_
    rintro rfl
    rw [hG] at hc
    simp only [Option.some.injEq, Obj.cells.injEq] at hc
    exact hne hc.2.1.symm
  refine ⟨(key _ g (by decide) ⟨_, h.row⟩).trans h.row, h.len, h.mg, fun j hj => bytes_same (h.byt j hj) (fun ad e => key _ _ (by decide) (h.typ j hj ad e)) (by simp), h.own, fun j hj ad e => ?_⟩
  rw [key _ _ (by decide) (h.typ j hj ad e)]
  exact h.typ j hj ad e
/-- Images whose first k have small numbers, and rows beside them. -/
structure Kq (q : Nat) (x3 wr : World) (v : Value) (n k g : Nat) (Y : List Rec.Im) (A : List (Option Addr × Nat)) (F : Nat → List Int) : Prop where
  md : Md q x3.heap.size x3 wr v n k Y
  nw : Nw wr (fun b => x3.heap.size ≤ b ∧ b < wr.heap.size) g A F
theorem Kq.below {q : Nat} {x3 wr w' : World} {v : Value} {n k g : Nat} {Y : List Rec.Im} {A : List (Option Addr × Nat)} {F : Nat → List Int} (h : Kq q x3 wr v n k g Y A F) (hb : Below wr.heap.size wr w') : Kq q x3 w' v n k g Y A F :=
  ⟨⟨oimgs_keep h.md.im (fun i h1 h2 => hb.block i h2), h.md.len, h.md.bl, h.md.sm, below_to h.md.bel hb⟩, (h.nw.same (fun b hk => hb.block b hk.2) hb.size).more (fun b hk => ⟨hk.1, Nat.lt_of_lt_of_le hk.2 hb.size⟩)⟩
theorem Kq.one {q : Nat} {x3 wr : World} {gI n k g cap : Nat} {Y : List Rec.Im} {A : List (Option Addr × Nat)} {F0 : Nat → List Int} (h : Kq q x3 wr (.slice (some ⟨gI, 0, none⟩) n cap) n k g Y A (nF F0 Y k)) (hk : k < Y.length) (hq : 0 < q) (hq2 : q ≤ 1000) (z : Nat) (hz : Y[k].blk % (q : Int) = (z : Int)) :
    Kq q x3 (wr.setCell ⟨gI, k * 2, none⟩ (.int .u64 (z : Int))) (.slice (some ⟨gI, 0, none⟩) n cap) n (k + 1) g (Y.set k { Y[k] with blk := (z : Int) }) A (nF F0 (Y.set k { Y[k] with blk := (z : Int) }) k) := by
  obtain ⟨g', hg', hg1, hg2⟩ := oimgs_form h.md.im (by omega)
  cases hg'
  refine ⟨h.md.step hk hg1 hq hq2 (z : Int) hz, ?_⟩
  rw [nF_set]
  have := nw_other h.nw gI (k * 2) (.int .u64 (z : Int)) (Rec.own_blk h.md.im.row gI rfl).2
  exact this.more (fun b hb => ⟨hb.1, by simpa using hb.2⟩)
theorem Kq.two {q : Nat} {x3 wr : World} {v : Value} {n k g : Nat} {Y : List Rec.Im} {A : List (Option Addr × Nat)} {F0 : Nat → List Int} (h : Kq q x3 wr v n (k + 1) g Y A (nF F0 Y k)) (hk : k < Y.length) (z : Nat) (hz : Y[k].blk = (z : Int)) :
    Kq q x3 (wr.setCell ⟨g, z, none⟩ (.slice Y[k].ba 160 Y[k].bc)) v n (k + 1) g Y (A.set z (Y[k].ba, Y[k].bc)) (nF F0 Y (k + 1)) := by
  have ho := h.md.im.byt Y[k] (List.getElem_mem hk)
  refine ⟨⟨oimgs_other h.md.im h.nw.row z _, h.md.len, h.md.bl, h.md.sm, below_set h.md.bel h.nw.mg.1 _⟩, ?_⟩
  have := nw_two h.nw hk (h.md.bl _ (List.getElem_mem hk)) ho (fun ad e => oim_blk ho ad e) z hz
  exact this.more (fun b hb => ⟨hb.1, by simpa using hb.2⟩)
theorem img_bl {w w' : World} {MA X : List Rec.Im} {v : Value} {k : Nat} (h : Rec.Ig w w' false MA k v X) : ∀ m ∈ X, m.bl = 160 := by
  intro m hm
  have hm1 : Rec.pl m ∈ X.map Rec.pl := List.mem_map.2 ⟨m, hm, rfl⟩
  rw [h.pls] at hm1
  have hm2 := List.mem_of_mem_take hm1
  obtain ⟨j, hj, hj2⟩ := List.getElem_of_mem hm2
  rw [Rec.get_imgP false _ j (by rw [Rec.len_imgP] at hj; exact hj)] at hj2
  have hb := (h.im.byt m hm).byi.1.1
  have e1 : m.bs.length = 160 := by
    rw [show m.bs = (Rec.pl m).2 from rfl, ← hj2]
    exact length_padTo _ _
  omega
theorem img_ok {q : Nat} {B n : Nat} {x3 wr : World} {v : Value} {Y : List Rec.Im} (h : Md q B x3 wr v n n Y) : ∀ x ∈ LM (Y.map toIm), x.2.length = 160 ∧ Byt x.2 ∧ 0 ≤ x.1 ∧ x.1 < (q : Int) := by
  intro x hx
  rw [LM_to] at hx
  obtain ⟨m, hm, rfl⟩ := List.mem_map.1 hx
  have ho := h.im.byt m hm
  obtain ⟨i, hi, rfl⟩ := List.getElem_of_mem hm
  exact ⟨ho.byi.1.1.trans (h.bl _ hm), ho.byt, ho.num.1, h.sm i hi (by rw [← h.len]; exact hi)⟩
/-- A vault, rows of one's own, images that stay. -/
structure Kr (x1 x9 y3 wr : World) (V D : Nat) (fp : Nat → Prop) (v : Vt) (d : Disk.Dk) (sa : Option Addr) (sc : Nat) (M : Nat → Prop) (g : Nat) (A : List (Option Addr × Nat)) (F : Nat → List Int) : Prop where
  vc : VC x1 wr V D fp v d sa sc
  mn : Mn M x1 wr V fp
  nw : Nw wr M g A F
  sm : ∀ c, x9.heap.size ≤ c → c < y3.heap.size → wr.heap[c]? = y3.heap[c]?
theorem Kr.below {x1 x9 y3 wr w' : World} {V D : Nat} {fp : Nat → Prop} {v : Vt} {d : Disk.Dk} {sa : Option Addr} {sc : Nat} {M : Nat → Prop} {g : Nat} {A : List (Option Addr × Nat)} {F : Nat → List Int} (h : Kr x1 x9 y3 wr V D fp v d sa sc M g A F) (hb : Below wr.heap.size wr w') (hM : ∀ c, x9.heap.size ≤ c → c < y3.heap.size → M c) : Kr x1 x9 y3 w' V D fp v d sa sc M g A F :=
  ⟨h.vc.below hb, ⟨fun c hc => Nat.lt_of_lt_of_le (h.mn.lt c hc) hb.size, h.mn.nf, h.mn.nv, h.mn.lo⟩, h.nw.same (fun c hc => hb.block c (h.mn.lt c hc)) hb.size, fun c h1 h2 => (hb.block c (h.mn.lt c (hM c h1 h2))).trans (h.sm c h1 h2)⟩
theorem Kr.set {x1 x9 y3 wr : World} {V D : Nat} {fp : Nat → Prop} {v : Vt} {d : Disk.Dk} {sa : Option Addr} {sc : Nat} {M : Nat → Prop} {g k B : Nat} {A : List (Option Addr × Nat)} {F1 : Nat → List Int} {Z : List Rec.Im} (h : Kr x1 x9 y3 wr V D fp v d sa sc M g A (nF F1 Z k)) (hg : g < x9.heap.size) (hsa : ∀ ad, sa = some ad → ad.block ≠ g) (hk : k < Z.length) (hbl : Z[k].bl = 160) (ho : Rec.OIm wr B Z[k]) (hM : ∀ ad, Z[k].ba = some ad → M ad.block) (z : Nat) (hz : Z[k].blk = (z : Int)) :
    Kr x1 x9 y3 (wr.setCell ⟨g, z, none⟩ (.slice Z[k].ba 160 Z[k].bc)) V D fp v d sa sc M g (A.set z (Z[k].ba, Z[k].bc)) (nF F1 Z (k + 1)) := by
  have hb : But g wr (wr.setCell ⟨g, z, none⟩ (.slice Z[k].ba 160 Z[k].bc)) := ⟨rfl, rfl, rfl, by simp, fun c _ hn => heap_setCell_other wr ⟨g, z, none⟩ c _ hn⟩
  exact ⟨h.vc.set g hb (h.mn.nf g h.nw.mg) (h.mn.nv g h.nw.mg) hsa (h.mn.lo g h.nw.mg), h.mn.set hb, nw_two h.nw hk hbl ho hM z hz, fun c h1 h2 => (heap_setCell_other wr ⟨g, z, none⟩ c _ (show c ≠ g by omega)).trans (h.sm c h1 h2)⟩
theorem off20 : ∀ n : Fin 21, 1 ≤ n.val → 2 * off n.val (topL n.val + 1) ≤ 80 := by decide +kernel
end Go.Proofs.YthbbijaikcmaeaaGreatDoor
