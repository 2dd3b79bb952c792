/-
  Images in memory; what takes of package vault answers.
-/
import Derived.Test.YtnicgmimhgbcfaaGreatDoorW9
import Derived.BigQuiet
namespace Go.Proofs.YtnicgmimhgbcfaaGreatDoor
set_option linter.unusedVariables false
set_option maxRecDepth 100000
open Go.RowKit Go.Shelf Plain Go.Proofs.YtnicgmimhgbcfaaGreatDoor.Shap.Plain

/-- A block handed in: its number, and where its bytes lie. -/
structure Im where
  blk : Int
  ba : Option Addr
  bl : Nat
  bc : Nat
  bs : List Int
def imc (m : Im) : List Value := [.int .u64 m.blk, .slice m.ba m.bl m.bc]
/-- Images in memory, one behind the other. -/
structure Imgs (w : World) (a : Option Addr) (M : List Im) : Prop where
  row : 0 < M.length → ∃ b o, a = some ⟨b, o, none⟩ ∧ b < w.heap.size ∧ ∀ i (h : i < M.length), w.rangeAt b (o + i * 2) (imc M[i])
  byt : ∀ m ∈ M, Bytes w m.ba m.bl m.bs ∧ 0 ≤ m.blk ∧ m.blk ≤ 18446744073709551615 ∧ m.bl ≤ maxLen
theorem Imgs.below {w w' : World} {a : Option Addr} {M : List Im} (h : Imgs w a M) (hb : Below w.heap.size w w') : Imgs w' a M := by
  refine ⟨fun hp => ?_, fun m hm => ⟨(h.byt m hm).1.below hb, (h.byt m hm).2⟩⟩
  obtain ⟨b, o, e, hlt, hr⟩ := h.row hp
  exact ⟨b, o, e, Nat.lt_of_lt_of_le hlt hb.size, fun i hi => range_below hb (hr i hi) hlt⟩
theorem zeroIm : (Tryz.prog.info? 65).map (·.zero) = some (some (.agg #[.int .u64 0, .slice none 0 0])) := by kernel_rfl
theorem infoIm : (Tryz.prog.info? 65).map (·.size) = some 2 := by kernel_rfl
/-- A row laid into a new block. -/
theorem wpList_newRow {ops : Array Oper} {rest : List Oper} {o : Oper} {a : Act} {v : World} {Q : Exit → Act → World → Prop} {u : TypeId} (w : World) (Z C : Array Value) (hi : (Tryz.prog.info? u).map (·.size) = some C.size) (hZ : Z.size = C.size) (h1 : C.all (·.oneCell') = true) (hgd : o.guard = none) (x y : Operand) (ho : o.op = .store u x y)
    (hx : a.eval x = .pointer (some ⟨w.heap.size, 0, none⟩)) (hy : a.eval y = .agg C) (hv : v = w.alloc (.cells Z u))
    (h : ∀ z, z.heap[w.heap.size]? = some (.cells C u (0, 0)) → Below w.heap.size w z → wpList Tryz.prog ops Q rest (a.put o.dst undef) z) : wpList Tryz.prog ops Q (o :: rest) a v := by
  subst hv
  exact wpList_store_row hgd u x y ho w.heap.size C hx hy u Z (al_at rfl) hi hZ h1 (h _ (setRow_heap _ _ _ _ _ _ (al_at rfl)) (below_setRow ((Below.refl _ _).alloc (Nat.le_refl _) _) (Nat.le_refl _) _))
theorem exec_idxIm {op : Oper} {ρ : Operand → Value} {w' : World} (x y : Operand) (ho : op.op = .indexAddr 51 x y) (b o len cap j : Nat) (hx : ρ x = .slice (some ⟨b, o, none⟩) len cap) (hy : ρ y = .int .i64 (j : Int)) (hj : j < len) :
    (execOp ρ op).run Tryz.prog w' = .ok (.value (.pointer (some ⟨b, o + j * 2, none⟩))) w' := by
  have hc : (0 : Int) ≤ (j : Int) ∧ (j : Int) < (len : Int) := by omega
  have hs : (sizeOf 65).run Tryz.prog w' = .ok 2 w' := by kernel_rfl
  unfold execOp
  simp [ho, hx, hy, Instr.indexAt, asIntOf, Sem.run_bind, run_underlying Tryz.underlying51, hc, Addr.add_mid]
  intro hh; omega
theorem atIdx {P : Program} {ops : Array Oper} {Q : Exit → Act → World → Prop} {rest : List Oper} {a : Act} {w : World} (t : TypeId) {x y : Operand} {d : Option Tmp} {ty : TypeId} {p : String} {af : Array Edge} {g : Option (Nat × Bool)} (h : wpList P ops Q ({ dst := d, op := .indexAddr t x y, type := ty, pos := p, after := af, guard := g } :: rest) a w) : wpList P ops Q ({ dst := d, op := .indexAddr t x y, type := ty, pos := p, after := af, guard := g } :: rest) a w := h
theorem below_drewN {B : Nat} {w x : World} (h : Below B w x) (n : Nat) : Below B w (x.drewN n) := ⟨h.os, h.tape, h.output, h.size, h.block⟩
/-- Why blocks can't be written. -/
def tk (n : Nat) (M : List Im) : Int := if M.any (fun m => decide (m.bl ≠ 160)) = true then 1 else if M.any (fun m => decide ((n : Int) ≤ m.blk)) = true then 12 else 0
theorem any_take {α : Type} (p : α → Bool) (M : List α) (k : Nat) (hk : k < M.length) (h : (M.take k).any p = false) (hp : p M[k] = false) : (M.take (k + 1)).any p = false := by
  rw [List.take_succ_eq_append_getElem hk, List.any_append, h]
  simp [hp]
theorem any_at {α : Type} (p : α → Bool) (M : List α) (k : Nat) (hk : k < M.length) (hp : p M[k] = true) : M.any p = true := List.any_eq_true.2 ⟨_, List.getElem_mem hk, hp⟩
set_option maxHeartbeats 2000000 in
theorem takes_v {w0 w : World} {V D : Nat} {fp : Nat → Prop} {v : Vt} {d : Disk.Dk} {sa : Option Addr} {sc : Nat} (C : VC w0 w V D fp v d sa sc) (a : Option Addr) (cap : Nat) (M : List Im) (hM : Imgs w a M) (hl : M.length ≤ 1000000) :
    Calls Tryz.prog 48 #[.pointer (some ⟨V, 0, none⟩), .slice a M.length cap] w fun e w' => e = .returned (.int .i64 (tk v.n M)) ∧ Below w.heap.size w w' := by
  have HM : Box (∀ x, Below w.heap.size w x → Imgs x a M) := ⟨fun x hx => hM.below hx⟩
  have HV : Box (∀ x, Below w.heap.size w x → x.cell? ⟨V, 33, none⟩ = some (.int .u64 (v.n : Int))) := ⟨fun x hx => (C.below hx).rd.leaves⟩
  clear hM C
  go_enter Tryz.func48, Tryz.ntmps48
  go_wp2
  go_loopw [11] (fun i wr => ∃ k : Nat, k ≤ M.length ∧ i = .int .i64 (k : Int) ∧ Box ((M.take k).any (fun m => decide (m.bl ≠ 160)) = false ∧ Below w.heap.size w wr)) (fun i _ => M.length - (intOf i).toNat)
  case atStart => exact ⟨0, Nat.zero_le _, rfl, ⟨by simp, Below.refl _ _⟩⟩
  case round =>
    obtain ⟨k, hk, rfl, HB⟩ := hrel
    by_cases hlt : k < M.length
    · have hlt1 : decide ((k : Int) < (M.length : Int)) = true := by simp; omega
      have hm := HM.out wr HB.out.2
      obtain ⟨b, o, e, hbl, hr⟩ := hm.row (by omega)
      subst e
      have hrk := hr k hlt
      have hbk := hm.byt M[k] (List.getElem_mem hlt)
      have HR : Box (wr.rangeAt b (o + k * 2) (imc M[k]) ∧ b < wr.heap.size) := ⟨hrk, hbl⟩
      have hw4 : IntKind.i64.wrap ((k : Int) + 1) = ((k + 1 : Nat) : Int) := by rw [IntKind.wrap_i64]; omega
      have HML : Box (k < M.length) := ⟨hlt⟩
      obtain ⟨m, hmm⟩ : ∃ m, M[k] = m := ⟨_, rfl⟩
      rw [hmm] at hbk
      simp only [hmm] at HR
      have HMM : Box (M[k] = m) := ⟨hmm⟩
      have hml := hbk.2.2.2
      unfold maxLen at hml
      clear hr hrk hbl hm hbk hmm
      go_upto_region 4 with (first
        | (refine atIdx _ ?_; refine wpList_run rfl _ _ (exec_idxIm (.tmp 9) (.tmp 11) rfl b o M.length cap k rfl rfl HML.out) ?_)
        | (refine atLoad 65 ?_; refine wpList_ldMid rfl 65 _ _ rfl Tryz.underlying65 rfl b (o + k * 2) rfl (imc m) infoIm HR.out.1 ?_)
        | (refine atAlloc _ ?_; refine wpList_run rfl _ _ (exec_alloc 65 rfl _ zeroIm) ?_)
        | (refine atStore _ ?_; refine wpList_newRow wr #[.int .u64 0, .slice none 0 0] (imc m).toArray infoIm rfl (by simp [imc, Value.oneCell']) rfl _ _ rfl rfl rfl rfl ?_; intro x1 h1 hb1; have c1 : x1.cell? ⟨wr.heap.size, 1, none⟩ = some (.slice m.ba m.bl m.bc) := (by rw [cell_of_row _ _ _ _ _ _ h1]; rfl); have HX : Box (Below wr.heap.size wr x1) := ⟨hb1⟩; clear h1 hb1))
      by_cases hb : m.bl = 160
      · have hb2 : ((m.bl : Int) == 160) = true := by simp [hb]
        go_wp2
        go_roundw
        case rel => exact ⟨k + 1, HML.out, rfl, ⟨any_take _ M k HML.out HB.out.1 (by rw [HMM.out]; simp [hb]), below_to HB.out.2 HX.out⟩⟩
        case measure => simp [intOf]; have := HML.out; omega
      · have hb2 : ((m.bl : Int) == 160) = false := by simp; omega
        have htk : tk v.n M = 1 := by
          unfold tk
          rw [if_pos (any_at _ M k HML.out (by rw [HMM.out]; simp [hb]))]
        have HTK : Box (tk v.n M = 1) := ⟨htk⟩
        clear htk
        go_wp2
        go_ret
        exact ⟨by rw [HTK.out]; rfl, below_to HB.out.2 HX.out⟩
    · obtain rfl : k = M.length := by omega
      have hlt1 : decide ((M.length : Int) < (M.length : Int)) = false := by simp
      have HA : Box (M.any (fun m => decide (m.bl ≠ 160)) = false ∧ Below w.heap.size w wr) := ⟨by have := HB.out.1; rwa [List.take_length] at this, HB.out.2⟩
      clear HB
      go_wp2
      obtain ⟨x0, hx0⟩ : ∃ x0, wr = x0 := ⟨_, rfl⟩
      go_loopw [22] (fun i wr => ∃ k : Nat, k ≤ M.length ∧ i = .int .i64 (k : Int) ∧ Box ((M.take k).any (fun m => decide ((v.n : Int) ≤ m.blk)) = false ∧ Below w.heap.size w wr)) (fun i _ => M.length - (intOf i).toNat)
      case atStart => exact ⟨0, Nat.zero_le _, rfl, ⟨by simp, HA.out.2⟩⟩
      case round =>
        clear hx0 hlt1
        obtain ⟨k, hk, rfl, HB⟩ := hrel
        by_cases hlt : k < M.length
        · have hlt1 : decide ((k : Int) < (M.length : Int)) = true := by simp; omega
          have hm := HM.out wr HB.out.2
          obtain ⟨b, o, e, hbl, hr⟩ := hm.row (by omega)
          subst e
          have hrk := hr k hlt
          have hbk := hm.byt M[k] (List.getElem_mem hlt)
          have HR : Box (wr.rangeAt b (o + k * 2) (imc M[k]) ∧ b < wr.heap.size) := ⟨hrk, hbl⟩
          have hw4 : IntKind.i64.wrap ((k : Int) + 1) = ((k + 1 : Nat) : Int) := by rw [IntKind.wrap_i64]; omega
          have HML : Box (k < M.length) := ⟨hlt⟩
          obtain ⟨m, hmm⟩ : ∃ m, M[k] = m := ⟨_, rfl⟩
          rw [hmm] at hbk
          simp only [hmm] at HR
          have HMM : Box (M[k] = m) := ⟨hmm⟩
          clear hr hrk hbl hm hbk hmm
          go_upto_region 10 with (first
            | (refine atIdx _ ?_; refine wpList_run rfl _ _ (exec_idxIm (.tmp 20) (.tmp 22) rfl b o M.length cap k rfl rfl HML.out) ?_)
            | (refine atLoad 65 ?_; refine wpList_ldMid rfl 65 _ _ rfl Tryz.underlying65 rfl b (o + k * 2) rfl (imc m) infoIm HR.out.1 ?_)
            | (refine atAlloc _ ?_; refine wpList_run rfl _ _ (exec_alloc 65 rfl _ zeroIm) ?_)
            | (refine atStore _ ?_; refine wpList_newRow wr #[.int .u64 0, .slice none 0 0] (imc m).toArray infoIm rfl (by simp [imc, Value.oneCell']) rfl _ _ rfl rfl rfl rfl ?_; intro x1 h1 hb1; have c1 : x1.cell? ⟨wr.heap.size, 0, none⟩ = some (.int .u64 m.blk) := (by rw [cell_of_row _ _ _ _ _ _ h1]; rfl); have HX : Box (Below w.heap.size w x1) := ⟨below_to HB.out.2 hb1⟩; have cv : x1.cell? ⟨V, 33, none⟩ = some (.int .u64 (v.n : Int)) := HV.out x1 HX.out; clear h1 hb1))
          by_cases hb : (v.n : Int) ≤ m.blk
          · have hb2 : decide ((v.n : Int) ≤ m.blk) = true := by simpa using hb
            have htk : tk v.n M = 12 := by
              unfold tk
              rw [HA.out.1, if_neg (by simp), if_pos (any_at _ M k HML.out (by rw [HMM.out]; simp [hb]))]
            have HTK : Box (tk v.n M = 12) := ⟨htk⟩
            clear htk
            go_quiet (fail)
            go_wp2
            go_ret
            exact ⟨by rw [HTK.out]; rfl, below_drewN HX.out _⟩
          · have hb2 : decide ((v.n : Int) ≤ m.blk) = false := by simpa using hb
            go_quiet (fail)
            go_wp2
            go_roundw
            case rel => exact ⟨k + 1, HML.out, rfl, ⟨any_take _ M k HML.out HB.out.1 (by rw [HMM.out]; simp [hb]), below_drewN HX.out _⟩⟩
            case measure => simp [intOf]; have := HML.out; omega
        · obtain rfl : k = M.length := by omega
          have hlt1 : decide ((M.length : Int) < (M.length : Int)) = false := by simp
          have htk : tk v.n M = 0 := by
            have := HB.out.1
            rw [List.take_length] at this
            unfold tk
            rw [HA.out.1, this]
            simp
          have HTK : Box (tk v.n M = 0) := ⟨htk⟩
          clear htk
          go_wp2
          go_ret
          exact ⟨by rw [HTK.out]; rfl, HB.out.2⟩
end Go.Proofs.YtnicgmimhgbcfaaGreatDoor
