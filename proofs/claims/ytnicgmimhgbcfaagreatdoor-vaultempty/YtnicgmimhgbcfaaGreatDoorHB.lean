/-
  Package digest, second part.
-/
import Derived.Test.YtnicgmimhgbcfaaGreatDoorHA
import Derived.Deep.RegionLaw
namespace Go.Proofs.YtnicgmimhgbcfaaGreatDoor.Dig.Plain
set_option linter.unusedVariables false
set_option maxRecDepth 100000
open Go.RowKit

/-- The bytes L stand, one behind the other, where a slice's address says. -/
def Bytes (w : World) (a : Option Addr) (len : Nat) (L : List Int) : Prop :=
  L.length = len ∧ Byt L ∧ (0 < len → ∃ b off, a = some ⟨b, off, none⟩ ∧ b < w.heap.size ∧ ∀ i, i < len → w.cell? ⟨b, off + i, none⟩ = some (.int .u8 (L.getD i 0)))
theorem Bytes.below {w w' : World} {a : Option Addr} {len : Nat} {L : List Int} (h : Bytes w a len L) (hb : Below w.heap.size w w') : Bytes w' a len L := by
  refine ⟨h.1, h.2.1, fun hp => ?_⟩
  obtain ⟨b, off, e, hlt, hc⟩ := h.2.2 hp
  exact ⟨b, off, e, Nat.lt_of_lt_of_le hlt hb.size, fun i hi => (hb.cell hlt).trans (hc i hi)⟩

/-- All that was there is as it was, but for block G. -/
structure But (G : Nat) (w w' : World) : Prop where
  os : w'.os = w.os
  tape : w'.tape = w.tape
  output : w'.output = w.output
  size : w.heap.size ≤ w'.heap.size
  block : ∀ k, k < w.heap.size → k ≠ G → w'.heap[k]? = w.heap[k]?
theorem But.refl (G : Nat) (w : World) : But G w w := ⟨rfl, rfl, rfl, Nat.le_refl _, fun _ _ _ => rfl⟩
theorem But.trans {G : Nat} {a b c : World} (h : But G a b) (k : But G b c) : But G a c :=
  ⟨k.os.trans h.os, k.tape.trans h.tape, k.output.trans h.output, Nat.le_trans h.size k.size, fun i hi hn => (k.block i (Nat.lt_of_lt_of_le hi h.size) hn).trans (h.block i hi hn)⟩
theorem But.of_below {G : Nat} {w w' : World} (h : Below w.heap.size w w') : But G w w' := ⟨h.os, h.tape, h.output, h.size, fun k hk _ => h.block k hk⟩
theorem But.drew {G : Nat} {w w' : World} (h : But G w w') : But G w w'.drew := ⟨h.os, h.tape, h.output, h.size, h.block⟩
theorem But.setCell {G : Nat} {w w' : World} (h : But G w w') (o : Nat) (v : Value) : But G w (w'.setCell ⟨G, o, none⟩ v) :=
  ⟨h.os, h.tape, h.output, by simpa using h.size, fun k hk hn => by rw [heap_setCell_other w' ⟨G, o, none⟩ k _ (fun e => hn e)]; exact h.block k hk hn⟩
theorem But.setRow {G : Nat} {w w' : World} (h : But G w w') (cs : Array Value) : But G w (w'.setRow G cs) :=
  ⟨h.os, h.tape, h.output, by simpa [World.setRow] using h.size, fun k hk hn => by rw [setRow_other w' G k cs hn]; exact h.block k hk hn⟩
theorem But.setCells {G : Nat} : ∀ (cs : List Value) (o : Nat) {w w' : World}, But G w w' → But G w (w'.setCells G o cs)
  | [], _, _, _, h => h
  | v :: r, o, _, _, h => But.setCells r (o + 1) (h.setCell o v)
theorem But.cell {G : Nat} {w w' : World} (h : But G w w') {b off : Nat} (hb : b < w.heap.size) (hn : b ≠ G) : w'.cell? ⟨b, off, none⟩ = w.cell? ⟨b, off, none⟩ := by
  simp [World.cell?, h.block b hb hn]
theorem But.below {G B : Nat} {w w' : World} (h : But G w w') (hB : B ≤ G) (hB2 : B ≤ w.heap.size) : Below B w w' := ⟨h.os, h.tape, h.output, h.size, fun k hk => h.block k (by omega) (by omega)⟩

theorem setCells_row (g : Nat) (t : TypeId) : ∀ (cs : List Value) (o : Nat) (cur : List Value) (w : World), w.heap[g]? = some (.cells cur.toArray t (0, 0)) → o + cs.length ≤ cur.length →
    (w.setCells g o cs).heap[g]? = some (.cells (splice cur o cs).toArray t (0, 0))
  | [], o, cur, w, h, _ => by simpa [World.setCells, splice] using h
  | v :: r, o, cur, w, h, hl => by
    rw [World.setCells]
    have h1 : (w.setCell ⟨g, o, none⟩ v).heap[g]? = some (.cells (cur.set o v).toArray t (0, 0)) := by
      rw [heap_setCell_same w g o _ t _ h]; simp
    rw [setCells_row g t r (o + 1) (cur.set o v) _ h1 (by simp at hl ⊢; omega)]
    congr 3
    simp only [splice, List.length_cons] at *
    have ho : o < cur.length := by omega
    have hm : min o cur.length = o := by omega
    rw [List.take_set, List.drop_set_of_lt (by omega), List.take_add_one, List.set_append]
    simp [ho, hm, Nat.add_assoc, Nat.add_comm 1]

def gc (ws B : List Int) (held : Nat) (tot : Int) : List Value := ws.map (Value.int .u32) ++ (B.map (Value.int .u8) ++ [.int .i64 held, .int .u64 tot])
section
variable {ws B : List Int} (h8 : ws.length = 8) (h64 : B.length = 64)
include h8 h64
theorem length_gc (held : Nat) (tot : Int) : (gc ws B held tot).length = 74 := by simp [gc, h8, h64]
theorem gc_held (held : Nat) (tot : Int) : (gc ws B held tot)[72]? = some (.int .i64 held) := by
  simp [gc, h8, h64]
theorem gc_tot (held : Nat) (tot : Int) : (gc ws B held tot)[73]? = some (.int .u64 tot) := by
  simp [gc, h8, h64]
theorem gc_set72 (held held' : Nat) (tot : Int) : (gc ws B held tot).set 72 (.int .i64 held') = gc ws B held' tot := by
  simp [gc, h8, h64]
theorem gc_set73 (held : Nat) (tot tot' : Int) : (gc ws B held tot).set 73 (.int .u64 tot') = gc ws B held tot' := by
  simp [gc, h8, h64]
omit h64 in
theorem gc_words (held : Nat) (tot : Int) (i : Nat) (hi : i < 8) : (gc ws B held tot)[i]? = some (.int .u32 (ws.getD i 0)) := by
  simp [gc, List.getElem?_append, h8, hi]
theorem gc_last (held : Nat) (tot : Int) (i : Nat) (hi : i < 64) : (gc ws B held tot)[8 + i]? = some (.int .u8 (B.getD i 0)) := by
  simp [gc, List.getElem?_append, h8, h64, hi]
theorem gc_splice (held : Nat) (tot : Int) (o : Nat) (c : List Int) (hc : o + c.length ≤ 64) : splice (gc ws B held tot) (8 + o) (c.map (Value.int .u8)) = gc ws (splice B o c) held tot := by
  simp only [splice, gc, List.length_map, List.map_append, List.map_take, List.map_drop]
  rw [List.take_append, List.drop_append]
  simp only [List.length_map, h8]
  rw [List.take_of_length_le (by simp [h8]), List.drop_of_length_le (by simp [h8]; omega)]
  rw [show 8 + o - 8 = o by omega, show 8 + o + c.length - 8 = o + c.length by omega]
  rw [List.take_append_of_le_length (by simp [h64]; omega), List.drop_append_of_le_length (by simp [h64]; omega)]
  simp
omit h64 in
theorem gc_splice0 (held : Nat) (tot : Int) (vs : List Int) (hv : vs.length = 8) : splice (gc ws B held tot) 0 (vs.map (Value.int .u32)) = gc vs B held tot := by
  simp [splice, gc, hv, h8]
end

def blk (M : List Int) : Nat → List Int
  | 0 => hh
  | n + 1 => mix (blk M n) (sched M (64 * n))
theorem wrd_hh : Wrd hh := by
  intro i
  by_cases h : i < 8
  · have key : ∀ j : Fin 8, 0 ≤ hh.getD j.val 0 ∧ hh.getD j.val 0 < 4294967296 := by decide +kernel
    exact key ⟨i, h⟩
  · have e : hh.getD i 0 = 0 := by
      simp only [List.getD]
      rw [List.getElem?_eq_none (by show 8 ≤ i; omega)]; rfl
    rw [e]; simp [W32]
theorem length_blk (M : List Int) (n : Nat) : (blk M n).length = 8 := by
  induction n with
  | zero => rfl
  | succ n ih => rw [blk, length_mix, ih]
theorem wrd_blk (M : List Int) (n : Nat) : Wrd (blk M n) := by
  induction n with
  | zero => exact wrd_hh
  | succ n ih => exact wrd_mix _ _ ih
theorem blk_app (M L : List Int) (n : Nat) (h : 64 * n ≤ M.length) : blk (M ++ L) n = blk M n := by
  induction n with
  | zero => rfl
  | succ n ih =>
    rw [blk, blk, ih (by omega)]
    rw [sched_congr (M ++ L) M (64 * n) (64 * n) (fun i hi => getD_app_left _ _ _ (by omega))]

/-- A digest under way, behind the bytes M. -/
structure Inv (M ws B : List Int) (held : Nat) : Prop where
  h8 : ws.length = 8
  wrd : Wrd ws
  h64 : B.length = 64
  byt : Byt B
  hheld : held = M.length % 64
  hws : ws = blk M (M.length / 64)
  hB : ∀ i, i < held → B.getD i 0 = M.getD (64 * (M.length / 64) + i) 0
theorem getD_splice (B c : List Int) (o i : Nat) (h : o + c.length ≤ B.length) : (splice B o c).getD i 0 = if i < o then B.getD i 0 else if i < o + c.length then c.getD (i - o) 0 else B.getD i 0 := by
  have hm : min o B.length = o := by omega
  simp only [splice, List.getD]
  by_cases h1 : i < o
  · rw [if_pos h1, List.getElem?_append_left (by simp; omega), List.getElem?_take, if_pos h1]
  · rw [if_neg h1, List.getElem?_append_right (by simp; omega)]
    simp only [List.length_take, hm]
    by_cases h2 : i < o + c.length
    · rw [if_pos h2, List.getElem?_append_left (by omega)]
    · rw [if_neg h2, List.getElem?_append_right (by omega), List.getElem?_drop]
      congr 2; omega
theorem byt_splice (B c : List Int) (o : Nat) (h : o + c.length ≤ B.length) (hB : Byt B) (hc : Byt c) : Byt (splice B o c) := by
  intro i
  rw [getD_splice B c o i h]
  split
  · exact hB i
  · split
    · exact hc _
    · exact hB i
theorem getD_app (M c : List Int) (i : Nat) : (M ++ c).getD i 0 = if i < M.length then M.getD i 0 else c.getD (i - M.length) 0 := by
  simp only [List.getD]
  split
  · rw [List.getElem?_append_left (by assumption)]
  · rw [List.getElem?_append_right (by omega)]
theorem Inv.part {M ws B : List Int} {held : Nat} (h : Inv M ws B held) (c : List Int) (hc : Byt c) (hl : held + c.length < 64) : Inv (M ++ c) ws (splice B held c) (held + c.length) := by
  obtain ⟨h8, wrd, h64, byt, hheld, hws, hB⟩ := h
  have e1 : (M.length + c.length) / 64 = M.length / 64 := by omega
  refine ⟨h8, wrd, by rw [length_splice _ _ _ (by omega)]; exact h64, byt_splice _ _ _ (by omega) byt hc, by simp; omega, ?_, fun i hi => ?_⟩
  · rw [List.length_append, e1, blk_app M c _ (by omega)]; exact hws
  · rw [getD_splice _ _ _ _ (by omega), List.length_append, e1, getD_app]
    by_cases h1 : i < held
    · rw [if_pos h1, if_pos (by omega)]; exact hB i h1
    · rw [if_neg h1, if_pos (by omega), if_neg (by omega)]; congr 1; omega
theorem Inv.full {M ws B : List Int} {held : Nat} (h : Inv M ws B held) (c : List Int) (hc : Byt c) (hl : held + c.length = 64) : Inv (M ++ c) (mix ws (sched (splice B held c) 0)) (splice B held c) 0 := by
  obtain ⟨h8, wrd, h64, byt, hheld, hws, hB⟩ := h
  have e1 : (M.length + c.length) / 64 = M.length / 64 + 1 := by omega
  have hs : sched (splice B held c) 0 = sched (M ++ c) (64 * (M.length / 64)) := by
    refine sched_congr _ _ _ _ (fun i hi => ?_)
    rw [Nat.zero_add, getD_splice _ _ _ _ (by omega), getD_app]
    by_cases h1 : i < held
    · rw [if_pos h1, if_pos (by omega)]; exact hB i h1
    · rw [if_neg h1, if_pos (by omega), if_neg (by omega)]; congr 1; omega
  have hb : blk (M ++ c) (M.length / 64) = ws := by rw [blk_app M c _ (by omega), hws]
  have hz : 0 = (M ++ c).length % 64 := by rw [List.length_append]; omega
  have hw : mix ws (sched (splice B held c) 0) = blk (M ++ c) ((M ++ c).length / 64) := by rw [List.length_append, e1, blk, hb, hs]
  exact ⟨by rw [length_mix]; exact h8, wrd_mix _ _ wrd, by rw [length_splice _ _ _ (by omega)]; exact h64, byt_splice _ _ _ (by omega) byt hc, hz, hw, fun i hi => absurd hi (Nat.not_lt_zero i)⟩
theorem Inv.start : Inv [] hh (List.replicate 64 0) 0 where
  h8 := rfl
  wrd := wrd_hh
  h64 := by simp
  byt := fun i => by
    simp only [List.getD, List.getElem?_replicate]
    split <;> simp
  hheld := by simp
  hws := by rw [List.length_nil, Nat.zero_div, blk]
  hB := fun i hi => absurd hi (by omega)
end Go.Proofs.YtnicgmimhgbcfaaGreatDoor.Dig.Plain
namespace Go.Proofs.YtnicgmimhgbcfaaGreatDoor.Dig
set_option linter.unusedVariables false
open Go.RowKit Go.Proofs.YtnicgmimhgbcfaaGreatDoor.Dig.Plain

theorem step_copy_at {P : Program} {ops : Array Oper} {o : Oper} {a : Act} {w : World} {K : Act → World → Prop} {Q : Exit → Act → World → Prop} {E : Prop} (hgd : o.guard = none) (d s : Operand) (dT sT : TypeId)
    (ho : o.op = .call { callee := .builtin .copy, args := #[d, s], argTypes := #[dT, sT] }) (elem : TypeId) (hu : P.underlying dT = some (.slice elem)) (hsz : (P.info? elem).map (·.size) = some 1)
    (g off : Nat) (ad : Addr) (dLen dCap sLen sCap : Nat) (hd : a.eval d = .slice (some ⟨g, off, none⟩) dLen dCap) (hs : a.eval s = .slice (some ad) sLen sCap)
    (cur : List Value) (t : TypeId) (hg : w.heap[g]? = some (.cells cur.toArray t (0, 0))) (cs : List Value) (hn : cs.length = Nat.min sLen dLen)
    (hpos : ∀ j v, cs[j]? = some v → w.cell? (ad.add j) = some v)
    (hfit : off + cs.length ≤ cur.length) (h1 : ∀ v ∈ cs, v.oneCell' = true)
    (h : K (a.put o.dst (goInt cs.length)) (w.setRow g (splice cur off cs).toArray)) :
    if Region.wanted o (yielded ops a.tmps) = true then Oper.wp P o a w K Q else E := by
  have hw : Region.wanted o (yielded ops a.tmps) = true := by simp [Region.wanted, hgd]
  rw [if_pos hw]
  have hrun := run_copy_row (P := P) w dT sT o.type elem g off dLen dCap ad sLen sCap cur.toArray t cs hu hsz hg hn hpos (by simpa using hfit) h1
  unfold Oper.wp
  simp [execOp, ho, resolve, invoke, builtin, hd, hs, hrun, Result.andThen]
  exact h

theorem slice45 (G held : Nat) (h : held < 64) (x : World) : (Instr.sliceAt 238 (.pointer (some ⟨G, 8, none⟩)) (some (.int .i64 held)) none none).run Tryz.prog x = .ok (.slice (some ⟨G, 8 + held, none⟩) (64 - held) (64 - held)) x := by
  have hlen : Tryz.prog.arrayLen 238 = 64 := by kernel_rfl
  rw [run_sliceAt_array_l (P := Tryz.prog) x 238 ⟨G, 8, none⟩ (by kernel_rfl) .i64 held (by omega) (by rw [hlen]; omega), hlen]
  have hs : (sizeOf (Tryz.prog.elem 238)).run Tryz.prog x = .ok 1 x := by kernel_rfl
  rw [hs, Result.andThen_ok, slicedAt, if_neg (by omega), Addr.add_mid]
  simp

theorem slice22 (ad : Addr) (r cap n : Nat) (h : n ≤ r) (x : World) : (Instr.slice 62 (.slice (some ad) r cap) (some (.int .i64 n)) none none).run Tryz.prog x = .ok (.slice (some (if cap = n then ad else ad.add n)) (r - n) (cap - n)) x := by
  rw [run_slice_l (P := Tryz.prog) x 62 (some ad) r cap (by kernel_rfl) .i64 n (by omega) (by omega)]
  have hs : (sizeOf (Tryz.prog.elem 62)).run Tryz.prog x = .ok 1 x := by kernel_rfl
  rw [hs, Result.andThen_ok, sliced]
  simp
  split <;> rfl

theorem Tabs.below' {w w' : World} {G : Nat} (h : Tabs w) (hb : But G w w') (hG : 2 ≤ G) : Tabs w' := by
  have h2 := h.1
  exact ⟨Nat.le_trans h.1 hb.size, fun i hi => (hb.cell (by omega) (by omega)).trans (h.2.1 i hi), fun i hi => (hb.cell (by omega) (by omega)).trans (h.2.2 i hi)⟩

/-- At block G stands a digest under way, behind the bytes M, T of them counted. -/
def Gat (w : World) (G : Nat) (M : List Int) (T : Nat) : Prop := ∃ ws B held, w.heap[G]? = some (.cells (gc ws B held T).toArray 252 (0, 0)) ∧ Inv M ws B held

set_option maxRecDepth 20000 in
set_option maxHeartbeats 2000000 in
theorem add_any (G len cap : Nat) (a : Option Addr) (L M : List Int) (w : World) (hT : Tabs w) (hG : Gat w G M M.length) (hG2 : 2 ≤ G) (hb : Bytes w a len L) (hap : 0 < len → ∀ ad, a = some ad → ad.block ≠ G) (hl : M.length + len ≤ 1000000) (hcap : len ≤ cap) (hcap2 : cap ≤ 9223372036854775807) :
    Calls Tryz.prog 153 #[.pointer (some ⟨G, 0, none⟩), .slice a len cap] w fun e w' => e = .returned (.tuple #[]) ∧ Gat w' G (M ++ L) (M.length + len) ∧ But G w w' := by
  obtain ⟨ws, B, held, hg, hI⟩ := hG
  have cT : w.cell? ⟨G, 73, none⟩ = some (.int .u64 M.length) := by rw [cell_of_row _ _ _ _ _ _ hg]; simpa using gc_tot hI.h8 hI.h64 held M.length
  have fT : w.frozen? ⟨G, 73, none⟩ = false := frozen_of_row w _ _ _ 252 hg
  have hlen := hI.h8
  have hGlt : G < w.heap.size := (Array.getElem?_eq_some_iff.1 hg).1
  have HG1 : Hid ((w.setCell ⟨G, 73, none⟩ (.int .u64 ((M.length : Int) + len))).heap[G]? = some (.cells (gc ws B held (M.length + len : Nat)).toArray 252 (0, 0)) ∧ But G w (w.setCell ⟨G, 73, none⟩ (.int .u64 ((M.length : Int) + len)))) := by
    refine ⟨?_, (But.refl G w).setCell _ _⟩
    rw [heap_setCell_same w G 73 _ 252 _ hg]
    have := gc_set73 hI.h8 hI.h64 held M.length (M.length + len : Nat)
    simp only [List.setIfInBounds_toArray]
    rw [← this]; simp
  have HI : Hid _ := hI
  clear hg hI
  obtain ⟨T, HTT⟩ : ∃ T, Hid (M.length + len = T) := ⟨_, rfl⟩
  rw [HTT.out] at HG1
  generalize M.length = m at *
  go_enter Tryz.func153, Tryz.ntmps153
  go_wp2
  generalize w.setCell ⟨G, 73, none⟩ (.int .u64 ((m : Int) + len)) = w1 at HG1 ⊢
  go_loopw [1] (fun v wr => ∃ (k r cap' held : Nat) (a' : Option Addr) (ws B : List Int), Hid (k + r = len ∧ Inv (M ++ L.take k) ws B held ∧ (0 < r → ∃ b off, a = some ⟨b, off, none⟩ ∧ a' = some ⟨b, off + k, none⟩)) ∧ r ≤ 1000000 ∧ r ≤ cap' ∧ cap' ≤ 9223372036854775807 ∧ v = .slice a' r cap' ∧ Hid (wr.heap[G]? = some (.cells (gc ws B held T).toArray 252 (0, 0))) ∧ Hid (But G w wr)) (fun v _ => match v with | .slice _ n _ => n | _ => 0)
  case atStart =>
    refine ⟨0, len, cap, held, a, ws, B, ⟨by omega, ?_, fun hk => ?_⟩, by omega, by omega, by omega, rfl, HG1.out⟩
    · simpa using HI.out
    · obtain ⟨b, off, e, _⟩ := hb.2.2 (by omega)
      exact ⟨b, off, e, by simpa using e⟩
  case round =>
    clear HI HG1 cT fT hlen ws B held
    obtain ⟨k, r, cap', held, a', ws, B, HK, hr1, hr2, hr3, rfl, HG, HB⟩ := hrel
    by_cases hlt : 0 < r
    · obtain ⟨hk, hI, hadr⟩ := HK.out
      obtain ⟨b, off, ha, rfl⟩ := hadr hlt
      obtain ⟨n, HN⟩ : ∃ n : Nat, Hid (n = Nat.min r (64 - held)) := ⟨_, rfl⟩
      obtain ⟨c, HCc⟩ : ∃ c, Hid (c = (L.drop k).take n) := ⟨_, rfl⟩
      have hheld : held < 64 := by rw [hI.hheld]; omega
      have hLl := hb.1
      have hn0 : 0 < n := by rw [HN.out]; show 0 < min _ _; omega
      have hn1 : n ≤ r := by rw [HN.out]; exact Nat.min_le_left _ _
      have hn2 : n ≤ 64 - held := by rw [HN.out]; exact Nat.min_le_right _ _
      have hn3 : n = 64 - held ∨ n = r := by rw [HN.out]; show min _ _ = _ ∨ min _ _ = _; omega
      have hcl : c.length = n := by rw [HCc.out]; simp; omega
      have hbn : b ≠ G := hap (by omega) _ ha
      have cH : wr.cell? ⟨G, 72, none⟩ = some (.int .i64 held) := by rw [cell_of_row _ _ _ _ _ _ HG.out]; simpa using gc_held hI.h8 hI.h64 held T
      have HSRC : Hid (∀ (x : World), But G w x → ∀ (j : Nat) (v : Value), (c.map (Value.int .u8))[j]? = some v → x.cell? ((⟨b, off + k, none⟩ : Addr).add j) = some v) := by
        intro x hx j v hj
        obtain ⟨b0, off0, e0, hb0, hc0⟩ := hb.2.2 (by omega)
        rw [ha] at e0
        simp only [Option.some.injEq, Addr.mk.injEq, and_true] at e0
        obtain ⟨rfl, rfl⟩ := e0
        have hjn : j < n := by rw [← hcl]; simpa using (List.getElem?_eq_some_iff.1 hj).1
        rw [Addr.add_mid, hx.cell hb0 hbn, Nat.add_assoc, hc0 (k + j) (by omega), ← hj]
        rw [HCc.out]
        simp only [List.getElem?_map, List.getElem?_take, hjn, if_true, List.getElem?_drop]
        rw [getD_of_lt L (k + j) (by omega)]; rfl
      have HFIT : Hid (8 + held + (c.map (Value.int .u8)).length ≤ (gc ws B held T).length) := by
        rw [Hid, length_gc hI.h8 hI.h64, List.length_map, hcl]; omega
      have HONE : Hid (∀ v ∈ c.map (Value.int .u8), v.oneCell' = true) := by intro v hv; simp at hv; obtain ⟨z, _, rfl⟩ := hv; rfl
      have HMIN : Hid ((c.map (Value.int .u8)).length = Nat.min r (64 - held)) := by rw [Hid, List.length_map, hcl, HN.out]
      have HROW : Hid ((wr.drew.setRow G (splice (gc ws B held T) (8 + held) (c.map (Value.int .u8))).toArray).heap[G]? = some (.cells (gc ws (splice B held c) held T).toArray 252 (0, 0)) ∧ But G w (wr.drew.setRow G (splice (gc ws B held T) (8 + held) (c.map (Value.int .u8))).toArray)) := by
        refine ⟨?_, HB.out.drew.setRow _⟩
        rw [setRow_heap wr.drew _ _ _ 252 (0, 0) HG.out, gc_splice hI.h8 hI.h64 held _ held c (by omega)]
      have hBd : Hid (But G w wr.drew) := HB.out.drew
      have hsl := slice45 G held hheld
      clear hk hI hadr ha hLl
      go_wp2
      go_region_law (refine step_copy_at rfl (.tmp 25) (.tmp 26) 62 62 rfl 5 Tryz.underlying62 (by kernel_rfl) G (8 + held) ⟨b, off + k, none⟩ (64 - held) (64 - held) r cap' rfl rfl _ 252 HG.out (c.map (Value.int .u8)) HMIN.out (HSRC.out _ hBd.out) HFIT.out HONE.out ?_)
      generalize wr.drew.setRow G (splice (gc ws B held T) (8 + held) (c.map (Value.int .u8))).toArray = x1 at HROW ⊢
      obtain ⟨hk, hI, hadr⟩ := HK.out
      obtain ⟨B', HB'⟩ : ∃ B', Hid (splice B held c = B') := ⟨_, rfl⟩
      rw [HB'.out] at HROW
      have hcb : Byt c := by
        intro i
        rw [HCc.out]
        simp only [List.getD, List.getElem?_take, List.getElem?_drop]
        split
        · exact hb.2.1 (k + i)
        · simp
      have h64' : B'.length = 64 := by rw [← HB'.out, length_splice _ _ _ (by rw [hI.h64]; omega)]; exact hI.h64
      have cH1 : x1.cell? ⟨G, 72, none⟩ = some (.int .i64 held) := by rw [cell_of_row _ _ _ _ _ _ HROW.out.1]; simpa using gc_held hI.h8 h64' held T
      have fH1 : x1.frozen? ⟨G, 72, none⟩ = false := frozen_of_row x1 _ _ _ 252 HROW.out.1
      have HS1 : Hid ((x1.setCell ⟨G, 72, none⟩ (.int .i64 ((held : Int) + n))).heap[G]? = some (.cells (gc ws B' (held + n) T).toArray 252 (0, 0)) ∧ But G w (x1.setCell ⟨G, 72, none⟩ (.int .i64 ((held : Int) + n)))) := by
        refine ⟨?_, HROW.out.2.setCell _ _⟩
        rw [heap_setCell_same x1 G 72 _ 252 _ HROW.out.1]
        have := gc_set72 hI.h8 h64' held (held + n) T
        simp only [List.setIfInBounds_toArray]
        rw [← this]; simp
      have HMC : Hid (M ++ L.take (k + n) = M ++ L.take k ++ c) := by rw [Hid, HCc.out, List.take_add, List.append_assoc]
      have h8 := hI.h8
      have HKL : Hid (k + r = len) := hk
      have HI : Hid _ := hI
      have HAD : Hid (0 < r → ∃ b_1 off_1, a = some ⟨b_1, off_1, none⟩ ∧ some (⟨b, off + k, none⟩ : Addr) = some ⟨b_1, off_1 + k, none⟩) := hadr
      clear hI hadr hk HK HROW HG HB HMIN HFIT HONE HSRC hBd hsl cH hb hap
      have hs22 := slice22 ⟨b, off + k, none⟩ r cap' n hn1
      obtain ⟨ad2, HA2⟩ : ∃ ad2 : Addr, Hid ((if cap' = n then (⟨b, off + k, none⟩ : Addr) else (⟨b, off + k, none⟩ : Addr).add n) = ad2) := ⟨_, rfl⟩
      rw [HA2.out] at hs22
      have HA3 : Hid (0 < r - n → ad2 = ⟨b, off + (k + n), none⟩) := by
        intro h0
        rw [← HA2.out, if_neg (by omega), Addr.add_mid, Nat.add_assoc]
      have hsub : ((r - n : Nat) : Int) = (r : Int) - n := by omega
      by_cases hfull : held + n = 64
      · have hfi : (held : Int) + n = 64 := by omega
        rw [hfi, hfull] at HS1
        have HS2 : Hid ((x1.setCell ⟨G, 72, none⟩ (.int .i64 64)).drew.heap[G]? = some (.cells (gc ws B' 64 T).toArray 252 (0, 0)) ∧ But G w (x1.setCell ⟨G, 72, none⟩ (.int .i64 64)).drew) := ⟨HS1.out.1, HS1.out.2.drew⟩
        have HWP := HI.out.wrd
        have hBB : Byt B' := by rw [← HB'.out]; exact byt_splice _ _ _ (by rw [HI.out.h64, hcl]; omega) HI.out.byt hcb
        have RW : Hid (∀ x : World, x.heap[G]? = some (.cells (gc ws B' 64 T).toArray 252 (0, 0)) → x.rangeAt G 0 (ws.map (Value.int .u32))) := by
          intro x hx j v hj
          have hj8 : j < 8 := by rw [← h8]; simpa using (List.getElem?_eq_some_iff.1 hj).1
          rw [cell_of_row _ _ _ _ _ _ hx, ← hj, Nat.zero_add]
          have := gc_words h8 64 T (B := B') j hj8
          simp only [List.getElem?_toArray, this, List.getElem?_map, getD_of_lt ws j (by omega)]; rfl
        have RB : Hid (∀ x : World, x.heap[G]? = some (.cells (gc ws B' 64 T).toArray 252 (0, 0)) → x.rangeAt G 8 (B'.map (Value.int .u8))) := by
          intro x hx j v hj
          have hj8 : j < 64 := by rw [← h64']; simpa using (List.getElem?_eq_some_iff.1 hj).1
          rw [cell_of_row _ _ _ _ _ _ hx, ← hj]
          have := gc_last h8 h64' 64 T j hj8
          simp only [List.getElem?_toArray, this, List.getElem?_map, getD_of_lt B' j (by omega)]; rfl
        obtain ⟨ws', HW'⟩ : ∃ ws', Hid (mix ws (sched B' 0) = ws') := ⟨_, rfl⟩
        have h8' : ws'.length = 8 := by rw [← HW'.out, length_mix]; exact h8
        have RT : Hid (∀ x : World, x.heap[G]? = some (.cells (gc ws B' 64 T).toArray 252 (0, 0)) → x.there G 0 (u32s ws').size) := by
          intro x hx j hj
          rw [size_u32s, h8'] at hj
          refine ⟨?_, frozen_of_row x _ _ _ 252 hx⟩
          rw [cell_of_row _ _ _ _ _ _ hx, Nat.zero_add]
          have := gc_words h8 64 T (B := B') j hj
          simp [this]
        have SX : Hid (∀ x : World, x.heap[G]? = some (.cells (gc ws B' 64 T).toArray 252 (0, 0)) → (x.setCells G 0 (u32s ws').toList).heap[G]? = some (.cells (gc ws' B' 64 T).toArray 252 (0, 0))) := by
          intro x hx
          have e : (u32s ws').toList = ws'.map (Value.int .u32) := by simp [u32s]
          rw [e, setCells_row G 252 _ 0 _ x hx (by rw [length_gc h8 h64', List.length_map, h8']; omega), gc_splice0 h8 64 T ws' h8']
        have hTT : Hid (∀ x, But G w x → Tabs x) := fun x hx => hT.below' hx hG2
        go_wp2
        generalize x1.setCell ⟨G, 72, none⟩ (.int .i64 64) = x2 at HS1 HS2 ⊢
        have RS : Hid ((Tryz.prog.info? 154).map (·.size) = some (ws.map (Value.int .u32)).length) := by rw [Hid, List.length_map, h8]; kernel_rfl
        have RSB : Hid ((Tryz.prog.info? 238).map (·.size) = some (B'.map (Value.int .u8)).length) := by rw [Hid, List.length_map, h64']; kernel_rfl
        have RS' : Hid ((Tryz.prog.info? 154).map (·.size) = some (u32s ws').size) := by rw [Hid, size_u32s, h8']; kernel_rfl
        refine wp_region_any (by kernel_rfl) ?_
        change wpAny _ _ _ _ _ _ _ (World.drew _)
        refine wpAny_take (i := 0) (v := ?_) rfl (by kernel_rfl) (by kernel_rfl) (by kernel_rfl) (fun _ _ _ h => h) (Or.inl ⟨by rfl, ?_⟩) ?_
        rotate_left
        · intro w'; go_simp <;> with_reducible rfl
        try simp only [Act.put, List.setIfInBounds_toArray, List.set_cons_zero, List.set_cons_succ, List.getElem_toArray, List.getElem_cons_zero]
        refine wpAny_take (i := 1) (v := ?_) rfl (by kernel_rfl) (by kernel_rfl) (by kernel_rfl) (fun _ _ _ h => h) (Or.inl ⟨by rfl, ?_⟩) ?_
        rotate_left
        · intro w'; go_simp <;> with_reducible rfl
        try simp only [Act.put, List.setIfInBounds_toArray, List.set_cons_zero, List.set_cons_succ, List.getElem_toArray, List.getElem_cons_zero, List.getElem_cons_succ]
        refine wpAny_take (i := 2) (v := ?_) rfl (by kernel_rfl) (by kernel_rfl) (by kernel_rfl) (fun _ _ _ h => h) (Or.inl ⟨by rfl, ?_⟩) ?_
        rotate_left
        · intro w'; go_simp <;> with_reducible rfl
        try simp only [Act.put, List.setIfInBounds_toArray, List.set_cons_zero, List.set_cons_succ, List.getElem_toArray, List.getElem_cons_zero, List.getElem_cons_succ]
        refine wpAny_take (i := 3) (v := ?_) rfl (by kernel_rfl) (by kernel_rfl) (by kernel_rfl) (fun _ _ _ h => h) (Or.inl ⟨by rfl, ?_⟩) ?_
        rotate_left
        · intro w'; go_simp <;> with_reducible rfl
        try simp only [Act.put, List.setIfInBounds_toArray, List.set_cons_zero, List.set_cons_succ, List.getElem_toArray, List.getElem_cons_zero, List.getElem_cons_succ]
        refine wpAny_take (i := 5) (v := ?_) rfl (by kernel_rfl) (by kernel_rfl) (by kernel_rfl) (fun _ _ _ h => h) (Or.inl ⟨by rfl, ?_⟩) ?_
        rotate_left
        · intro w'; go_simp <;> with_reducible rfl
        try simp only [Act.put, List.setIfInBounds_toArray, List.set_cons_zero, List.set_cons_succ, List.getElem_toArray, List.getElem_cons_zero, List.getElem_cons_succ]
        refine wpAny_take (i := 6) (v := ?_) rfl (by kernel_rfl) (by kernel_rfl) (by kernel_rfl) (fun _ _ _ h => h) (Or.inl ⟨by rfl, ?_⟩) ?_
        rotate_left
        · intro w'; go_simp <;> with_reducible rfl
        try simp only [Act.put, List.setIfInBounds_toArray, List.set_cons_zero, List.set_cons_succ, List.getElem_toArray, List.getElem_cons_zero, List.getElem_cons_succ]
        refine wpAny_take (i := 7) (v := ?_) rfl (by kernel_rfl) (by kernel_rfl) (by kernel_rfl) (fun _ _ _ h => h) (Or.inl ⟨by rfl, ?_⟩) ?_
        rotate_left
        · intro w'; go_simp <;> with_reducible rfl
        try simp only [Act.put, List.setIfInBounds_toArray, List.set_cons_zero, List.set_cons_succ, List.getElem_toArray, List.getElem_cons_zero, List.getElem_cons_succ]
        refine wpAny_ready (rs := [4, 8]) (by kernel_rfl) (by simp) ?_
        refine (AllReady.cons rfl (fun K hK => ?_) (AllReady.cons rfl (fun K hK => ?_) AllReady.nil))
        · rw [if_pos (by rfl)]
          refine wp_load_mid 154 (.tmp 47) rfl G 0 rfl (ws.map (Value.int .u32)) _ (RW.out _ HS2.out.1) Tryz.underlying154 rfl RS.out ?_
          refine hK _ _ ?_
          clear hK K
          try simp only [Act.put, List.setIfInBounds_toArray, List.set_cons_zero, List.set_cons_succ, List.getElem_toArray, List.getElem_cons_zero, List.getElem_cons_succ]
          refine wpAny_ready (rs := [8]) (by kernel_rfl) (by simp) ?_
          refine (AllReady.cons rfl (fun K hK => ?_) AllReady.nil)
          rw [if_pos (by rfl)]
          refine wp_load_mid 238 (.tmp 51) rfl G 8 rfl (B'.map (Value.int .u8)) _ (RB.out _ HS2.out.1) Tryz.underlying238 rfl RSB.out ?_
          refine hK _ _ ?_
          clear hK K
          try simp only [Act.put, List.setIfInBounds_toArray, List.set_cons_zero, List.set_cons_succ, List.getElem_toArray, List.getElem_cons_zero, List.getElem_cons_succ]
          refine wpAny_ready (rs := [9]) (by kernel_rfl) (by simp) ?_
          refine (AllReady.cons rfl (fun K hK => ?_) AllReady.nil)
          rw [if_pos (by rfl)]
          go_simp
          refine (schedule_any B' _ h64' hBB).mono ?_
          rintro e w3 ⟨rfl, hb3⟩
          have HS3 : Hid (w3.heap[G]? = some (.cells (gc ws B' 64 T).toArray 252 (0, 0)) ∧ But G w w3) := And.intro ((hb3.block G (Array.getElem?_eq_some_iff.1 HS2.out.1).1).trans HS2.out.1) (HS2.out.2.trans (But.of_below hb3))
          clear hb3
          refine hK _ _ ?_
          clear hK K
          try simp only [Act.put, List.setIfInBounds_toArray, List.set_cons_zero, List.set_cons_succ, List.getElem_toArray, List.getElem_cons_zero, List.getElem_cons_succ]
          refine wpAny_ready (rs := [10]) (by kernel_rfl) (by simp) ?_
          refine (AllReady.cons rfl (fun K hK => ?_) AllReady.nil)
          rw [if_pos (by rfl)]
          go_simp
          refine (mixed_any ws (sched B' 0) _ h8 (length_sched _ _) HWP (wrd_sched _ _ hBB) (hTT.out _ HS3.out.2)).mono ?_
          rintro e w4 ⟨rfl, hb4⟩
          rw [HW'.out]
          have HS4 : Hid (w4.heap[G]? = some (.cells (gc ws B' 64 T).toArray 252 (0, 0)) ∧ But G w w4) := And.intro ((hb4.block G (Array.getElem?_eq_some_iff.1 HS3.out.1).1).trans HS3.out.1) (HS3.out.2.trans (But.of_below hb4))
          clear hb4
          refine hK _ _ ?_
          clear hK K
          try simp only [Act.put, List.setIfInBounds_toArray, List.set_cons_zero, List.set_cons_succ, List.getElem_toArray, List.getElem_cons_zero, List.getElem_cons_succ]
          refine wpAny_take (i := 11) (v := ?_) rfl (by kernel_rfl) (by kernel_rfl) (by kernel_rfl) (fun _ _ _ h => h) (Or.inl ⟨by rfl, ?_⟩) ?_
          rotate_left
          · intro w'; go_simp <;> with_reducible rfl
          try simp only [Act.put, List.setIfInBounds_toArray, List.set_cons_zero, List.set_cons_succ, List.getElem_toArray, List.getElem_cons_zero, List.getElem_cons_succ]
          refine wpAny_take (i := 12) (v := ?_) rfl (by kernel_rfl) (by kernel_rfl) (by kernel_rfl) (fun _ _ _ h => h) (Or.inl ⟨by rfl, ?_⟩) ?_
          rotate_left
          · intro w'; go_simp <;> with_reducible rfl
          try simp only [Act.put, List.setIfInBounds_toArray, List.set_cons_zero, List.set_cons_succ, List.getElem_toArray, List.getElem_cons_zero, List.getElem_cons_succ]
          refine wpAny_ready (rs := [13]) (by kernel_rfl) (by simp) ?_
          refine AllReady.cons rfl (fun K hK => ?_) AllReady.nil
          rw [if_pos (by rfl)]
          refine wp_store_mid 154 (.tmp 56) (.tmp 54) rfl G 0 (u32s ws') rfl rfl (RT.out _ HS4.out.1) RS'.out (all_u32s _) ?_
          refine hK _ _ ?_
          clear hK K
          refine wpAny_done (by kernel_rfl) ?_ _
          have HX5 : Hid ((w4.setCells G 0 (u32s ws').toList).heap[G]? = some (.cells (gc ws' B' 64 T).toArray 252 (0, 0)) ∧ But G w (w4.setCells G 0 (u32s ws').toList)) := ⟨SX.out _ HS4.out.1, But.setCells _ _ HS4.out.2⟩
          generalize w4.setCells G 0 (u32s ws').toList = x5 at HX5 ⊢
          have c5 : x5.cell? ⟨G, 72, none⟩ = some (.int .i64 64) := by rw [cell_of_row _ _ _ _ _ _ HX5.out.1]; simpa using gc_held h8' h64' 64 T
          have f5 : x5.frozen? ⟨G, 72, none⟩ = false := frozen_of_row x5 _ _ _ 252 HX5.out.1
          have HS5 : Hid ((x5.setCell ⟨G, 72, none⟩ (.int .i64 0)).heap[G]? = some (.cells (gc ws' B' 0 T).toArray 252 (0, 0)) ∧ But G w (x5.setCell ⟨G, 72, none⟩ (.int .i64 0))) := by
            refine ⟨?_, HX5.out.2.setCell _ _⟩
            rw [heap_setCell_same x5 G 72 _ 252 _ HX5.out.1]
            have := gc_set72 h8' h64' 64 0 T
            simp only [List.setIfInBounds_toArray]
            rw [← this]; simp
          go_wp2
          go_roundw
          case rel =>
            have hkl : k + r = len := HKL.out
            refine ⟨k + n, r - n, cap' - n, 0, some ad2, ws', B', ⟨by omega, ?_, fun h0 => ?_⟩, by omega, by omega, by omega, rfl, HS5.out⟩
            · rw [HMC.out, ← HW'.out, ← HB'.out]
              exact HI.out.full c hcb (by omega)
            · obtain ⟨b1, off1, e1, e2⟩ := HAD.out hlt
              simp only [Option.some.injEq, Addr.mk.injEq, and_true] at e2
              obtain ⟨rfl, e3⟩ := e2
              obtain rfl : off = off1 := by omega
              exact ⟨_, _, e1, by rw [HA3.out h0]⟩
          case measure => simp; omega
        · rw [if_pos (by rfl)]
          refine wp_load_mid 238 (.tmp 51) rfl G 8 rfl (B'.map (Value.int .u8)) _ (RB.out _ HS2.out.1) Tryz.underlying238 rfl RSB.out ?_
          refine hK _ _ ?_
          clear hK K
          try simp only [Act.put, List.setIfInBounds_toArray, List.set_cons_zero, List.set_cons_succ, List.getElem_toArray, List.getElem_cons_zero, List.getElem_cons_succ]
          refine wpAny_ready (rs := [4, 9]) (by kernel_rfl) (by simp) ?_
          refine (AllReady.cons rfl (fun K hK => ?_) (AllReady.cons rfl (fun K hK => ?_) AllReady.nil))
          · rw [if_pos (by rfl)]
            refine wp_load_mid 154 (.tmp 47) rfl G 0 rfl (ws.map (Value.int .u32)) _ (RW.out _ HS2.out.1) Tryz.underlying154 rfl RS.out ?_
            refine hK _ _ ?_
            clear hK K
            try simp only [Act.put, List.setIfInBounds_toArray, List.set_cons_zero, List.set_cons_succ, List.getElem_toArray, List.getElem_cons_zero, List.getElem_cons_succ]
            refine wpAny_ready (rs := [9]) (by kernel_rfl) (by simp) ?_
            refine (AllReady.cons rfl (fun K hK => ?_) AllReady.nil)
            rw [if_pos (by rfl)]
            go_simp
            refine (schedule_any B' _ h64' hBB).mono ?_
            rintro e w3 ⟨rfl, hb3⟩
            have HS3 : Hid (w3.heap[G]? = some (.cells (gc ws B' 64 T).toArray 252 (0, 0)) ∧ But G w w3) := And.intro ((hb3.block G (Array.getElem?_eq_some_iff.1 HS2.out.1).1).trans HS2.out.1) (HS2.out.2.trans (But.of_below hb3))
            clear hb3
            refine hK _ _ ?_
            clear hK K
            try simp only [Act.put, List.setIfInBounds_toArray, List.set_cons_zero, List.set_cons_succ, List.getElem_toArray, List.getElem_cons_zero, List.getElem_cons_succ]
            refine wpAny_ready (rs := [10]) (by kernel_rfl) (by simp) ?_
            refine (AllReady.cons rfl (fun K hK => ?_) AllReady.nil)
            rw [if_pos (by rfl)]
            go_simp
            refine (mixed_any ws (sched B' 0) _ h8 (length_sched _ _) HWP (wrd_sched _ _ hBB) (hTT.out _ HS3.out.2)).mono ?_
            rintro e w4 ⟨rfl, hb4⟩
            rw [HW'.out]
            have HS4 : Hid (w4.heap[G]? = some (.cells (gc ws B' 64 T).toArray 252 (0, 0)) ∧ But G w w4) := And.intro ((hb4.block G (Array.getElem?_eq_some_iff.1 HS3.out.1).1).trans HS3.out.1) (HS3.out.2.trans (But.of_below hb4))
            clear hb4
            refine hK _ _ ?_
            clear hK K
            try simp only [Act.put, List.setIfInBounds_toArray, List.set_cons_zero, List.set_cons_succ, List.getElem_toArray, List.getElem_cons_zero, List.getElem_cons_succ]
            refine wpAny_take (i := 11) (v := ?_) rfl (by kernel_rfl) (by kernel_rfl) (by kernel_rfl) (fun _ _ _ h => h) (Or.inl ⟨by rfl, ?_⟩) ?_
            rotate_left
            · intro w'; go_simp <;> with_reducible rfl
            try simp only [Act.put, List.setIfInBounds_toArray, List.set_cons_zero, List.set_cons_succ, List.getElem_toArray, List.getElem_cons_zero, List.getElem_cons_succ]
            refine wpAny_take (i := 12) (v := ?_) rfl (by kernel_rfl) (by kernel_rfl) (by kernel_rfl) (fun _ _ _ h => h) (Or.inl ⟨by rfl, ?_⟩) ?_
            rotate_left
            · intro w'; go_simp <;> with_reducible rfl
            try simp only [Act.put, List.setIfInBounds_toArray, List.set_cons_zero, List.set_cons_succ, List.getElem_toArray, List.getElem_cons_zero, List.getElem_cons_succ]
            refine wpAny_ready (rs := [13]) (by kernel_rfl) (by simp) ?_
            refine AllReady.cons rfl (fun K hK => ?_) AllReady.nil
            rw [if_pos (by rfl)]
            refine wp_store_mid 154 (.tmp 56) (.tmp 54) rfl G 0 (u32s ws') rfl rfl (RT.out _ HS4.out.1) RS'.out (all_u32s _) ?_
            refine hK _ _ ?_
            clear hK K
            refine wpAny_done (by kernel_rfl) ?_ _
            have HX5 : Hid ((w4.setCells G 0 (u32s ws').toList).heap[G]? = some (.cells (gc ws' B' 64 T).toArray 252 (0, 0)) ∧ But G w (w4.setCells G 0 (u32s ws').toList)) := ⟨SX.out _ HS4.out.1, But.setCells _ _ HS4.out.2⟩
            generalize w4.setCells G 0 (u32s ws').toList = x5 at HX5 ⊢
            have c5 : x5.cell? ⟨G, 72, none⟩ = some (.int .i64 64) := by rw [cell_of_row _ _ _ _ _ _ HX5.out.1]; simpa using gc_held h8' h64' 64 T
            have f5 : x5.frozen? ⟨G, 72, none⟩ = false := frozen_of_row x5 _ _ _ 252 HX5.out.1
            have HS5 : Hid ((x5.setCell ⟨G, 72, none⟩ (.int .i64 0)).heap[G]? = some (.cells (gc ws' B' 0 T).toArray 252 (0, 0)) ∧ But G w (x5.setCell ⟨G, 72, none⟩ (.int .i64 0))) := by
              refine ⟨?_, HX5.out.2.setCell _ _⟩
              rw [heap_setCell_same x5 G 72 _ 252 _ HX5.out.1]
              have := gc_set72 h8' h64' 64 0 T
              simp only [List.setIfInBounds_toArray]
              rw [← this]; simp
            go_wp2
            go_roundw
            case rel =>
              have hkl : k + r = len := HKL.out
              refine ⟨k + n, r - n, cap' - n, 0, some ad2, ws', B', ⟨by omega, ?_, fun h0 => ?_⟩, by omega, by omega, by omega, rfl, HS5.out⟩
              · rw [HMC.out, ← HW'.out, ← HB'.out]
                exact HI.out.full c hcb (by omega)
              · obtain ⟨b1, off1, e1, e2⟩ := HAD.out hlt
                simp only [Option.some.injEq, Addr.mk.injEq, and_true] at e2
                obtain ⟨rfl, e3⟩ := e2
                obtain rfl : off = off1 := by omega
                exact ⟨_, _, e1, by rw [HA3.out h0]⟩
            case measure => simp; omega
          · rw [if_pos (by rfl)]
            go_simp
            refine (schedule_any B' _ h64' hBB).mono ?_
            rintro e w3 ⟨rfl, hb3⟩
            have HS3 : Hid (w3.heap[G]? = some (.cells (gc ws B' 64 T).toArray 252 (0, 0)) ∧ But G w w3) := And.intro ((hb3.block G (Array.getElem?_eq_some_iff.1 HS2.out.1).1).trans HS2.out.1) (HS2.out.2.trans (But.of_below hb3))
            clear hb3
            refine hK _ _ ?_
            clear hK K
            try simp only [Act.put, List.setIfInBounds_toArray, List.set_cons_zero, List.set_cons_succ, List.getElem_toArray, List.getElem_cons_zero, List.getElem_cons_succ]
            refine wpAny_ready (rs := [4]) (by kernel_rfl) (by simp) ?_
            refine (AllReady.cons rfl (fun K hK => ?_) AllReady.nil)
            rw [if_pos (by rfl)]
            refine wp_load_mid 154 (.tmp 47) rfl G 0 rfl (ws.map (Value.int .u32)) _ (RW.out _ HS3.out.1) Tryz.underlying154 rfl RS.out ?_
            refine hK _ _ ?_
            clear hK K
            try simp only [Act.put, List.setIfInBounds_toArray, List.set_cons_zero, List.set_cons_succ, List.getElem_toArray, List.getElem_cons_zero, List.getElem_cons_succ]
            refine wpAny_ready (rs := [10]) (by kernel_rfl) (by simp) ?_
            refine (AllReady.cons rfl (fun K hK => ?_) AllReady.nil)
            rw [if_pos (by rfl)]
            go_simp
            refine (mixed_any ws (sched B' 0) _ h8 (length_sched _ _) HWP (wrd_sched _ _ hBB) (hTT.out _ HS3.out.2)).mono ?_
            rintro e w4 ⟨rfl, hb4⟩
            rw [HW'.out]
            have HS4 : Hid (w4.heap[G]? = some (.cells (gc ws B' 64 T).toArray 252 (0, 0)) ∧ But G w w4) := And.intro ((hb4.block G (Array.getElem?_eq_some_iff.1 HS3.out.1).1).trans HS3.out.1) (HS3.out.2.trans (But.of_below hb4))
            clear hb4
            refine hK _ _ ?_
            clear hK K
            try simp only [Act.put, List.setIfInBounds_toArray, List.set_cons_zero, List.set_cons_succ, List.getElem_toArray, List.getElem_cons_zero, List.getElem_cons_succ]
            refine wpAny_take (i := 11) (v := ?_) rfl (by kernel_rfl) (by kernel_rfl) (by kernel_rfl) (fun _ _ _ h => h) (Or.inl ⟨by rfl, ?_⟩) ?_
            rotate_left
            · intro w'; go_simp <;> with_reducible rfl
            try simp only [Act.put, List.setIfInBounds_toArray, List.set_cons_zero, List.set_cons_succ, List.getElem_toArray, List.getElem_cons_zero, List.getElem_cons_succ]
            refine wpAny_take (i := 12) (v := ?_) rfl (by kernel_rfl) (by kernel_rfl) (by kernel_rfl) (fun _ _ _ h => h) (Or.inl ⟨by rfl, ?_⟩) ?_
            rotate_left
            · intro w'; go_simp <;> with_reducible rfl
            try simp only [Act.put, List.setIfInBounds_toArray, List.set_cons_zero, List.set_cons_succ, List.getElem_toArray, List.getElem_cons_zero, List.getElem_cons_succ]
            refine wpAny_ready (rs := [13]) (by kernel_rfl) (by simp) ?_
            refine AllReady.cons rfl (fun K hK => ?_) AllReady.nil
            rw [if_pos (by rfl)]
            refine wp_store_mid 154 (.tmp 56) (.tmp 54) rfl G 0 (u32s ws') rfl rfl (RT.out _ HS4.out.1) RS'.out (all_u32s _) ?_
            refine hK _ _ ?_
            clear hK K
            refine wpAny_done (by kernel_rfl) ?_ _
            have HX5 : Hid ((w4.setCells G 0 (u32s ws').toList).heap[G]? = some (.cells (gc ws' B' 64 T).toArray 252 (0, 0)) ∧ But G w (w4.setCells G 0 (u32s ws').toList)) := ⟨SX.out _ HS4.out.1, But.setCells _ _ HS4.out.2⟩
            generalize w4.setCells G 0 (u32s ws').toList = x5 at HX5 ⊢
            have c5 : x5.cell? ⟨G, 72, none⟩ = some (.int .i64 64) := by rw [cell_of_row _ _ _ _ _ _ HX5.out.1]; simpa using gc_held h8' h64' 64 T
            have f5 : x5.frozen? ⟨G, 72, none⟩ = false := frozen_of_row x5 _ _ _ 252 HX5.out.1
            have HS5 : Hid ((x5.setCell ⟨G, 72, none⟩ (.int .i64 0)).heap[G]? = some (.cells (gc ws' B' 0 T).toArray 252 (0, 0)) ∧ But G w (x5.setCell ⟨G, 72, none⟩ (.int .i64 0))) := by
              refine ⟨?_, HX5.out.2.setCell _ _⟩
              rw [heap_setCell_same x5 G 72 _ 252 _ HX5.out.1]
              have := gc_set72 h8' h64' 64 0 T
              simp only [List.setIfInBounds_toArray]
              rw [← this]; simp
            go_wp2
            go_roundw
            case rel =>
              have hkl : k + r = len := HKL.out
              refine ⟨k + n, r - n, cap' - n, 0, some ad2, ws', B', ⟨by omega, ?_, fun h0 => ?_⟩, by omega, by omega, by omega, rfl, HS5.out⟩
              · rw [HMC.out, ← HW'.out, ← HB'.out]
                exact HI.out.full c hcb (by omega)
              · obtain ⟨b1, off1, e1, e2⟩ := HAD.out hlt
                simp only [Option.some.injEq, Addr.mk.injEq, and_true] at e2
                obtain ⟨rfl, e3⟩ := e2
                obtain rfl : off = off1 := by omega
                exact ⟨_, _, e1, by rw [HA3.out h0]⟩
            case measure => simp; omega
      · have hfi : ¬ (held : Int) + n = 64 := by omega
        go_wp2
        go_roundw
        case rel =>
          have hkl : k + r = len := HKL.out
          refine ⟨k + n, r - n, cap' - n, held + n, some ad2, ws, B', ⟨by omega, ?_, fun h0 => ?_⟩, by omega, by omega, by omega, rfl, HS1.out⟩
          · rw [HMC.out, ← HB'.out, ← hcl]
            exact HI.out.part c hcb (by omega)
          · obtain ⟨b1, off1, e1, e2⟩ := HAD.out hlt
            simp only [Option.some.injEq, Addr.mk.injEq, and_true] at e2
            obtain ⟨rfl, e3⟩ := e2
            obtain rfl : off = off1 := by omega
            exact ⟨_, _, e1, by rw [HA3.out h0]⟩
        case measure => simp; omega
    · obtain ⟨hk, hI, _⟩ := HK.out
      obtain rfl : r = 0 := by omega
      obtain rfl : k = len := by omega
      have HL : Hid (M ++ L.take k = M ++ L) := by rw [Hid, List.take_of_length_le (by rw [hb.1]; exact Nat.le_refl _)]
      have HF : Hid (Gat wr G (M ++ L) (m + k) ∧ But G w wr) := by
        refine ⟨⟨ws, B, held, ?_, ?_⟩, HB.out⟩
        · rw [HTT.out]; exact HG.out
        · rw [← HL.out]; exact hI
      clear hk hI HK HG HB
      go_wp2
      go_end0
      exact ⟨rfl, HF.out⟩
end Go.Proofs.YtnicgmimhgbcfaaGreatDoor.Dig
namespace Go.Proofs.YtnicgmimhgbcfaaGreatDoor.Dig.Plain
set_option linter.unusedVariables false
open Go.RowKit

/-- A fact put away, so that no search looks into it. -/
structure Box (p : Prop) : Prop where
  out : p

def byteAt (x : Int) (i : Nat) : Int := x / 2 ^ (8 * i) % 256
/-- The lowest k bytes of a number, the highest of them first. -/
def lo (x : Int) : Nat → List Int
  | 0 => []
  | k + 1 => byteAt x k :: lo x k
def tailK (z : Nat) (x : Int) (k : Nat) : List Int := (128 :: List.replicate (z + 8 - k) 0) ++ lo x k
def zs (m : Nat) : Nat := (119 - m % 64) % 64
def padT (M : List Int) : List Int := tailK (zs M.length) (M.length * 8) 8
theorem length_lo (x : Int) (k : Nat) : (lo x k).length = k := by
  induction k with
  | zero => rfl
  | succ k ih => simp [lo, ih]
theorem length_tailK (z : Nat) (x : Int) (k : Nat) (h : k ≤ 8) : (tailK z x k).length = z + 9 := by
  simp [tailK, length_lo]; omega
theorem tailK_set (z : Nat) (x : Int) (k : Nat) (h : k < 8) : (tailK z x k).set (z + 8 - k) (byteAt x k) = tailK z x (k + 1) := by
  obtain ⟨q, hq⟩ : ∃ q, z + 8 - k = q + 1 := ⟨z + 7 - k, by omega⟩
  have hq' : z + 8 - (k + 1) = q := by omega
  unfold tailK
  rw [hq, hq', lo, List.replicate_succ']
  simp
theorem byt_nil : Byt [] := by intro i; simp
theorem byt_cons (v : Int) (L : List Int) (hv : 0 ≤ v ∧ v ≤ 255) (h : Byt L) : Byt (v :: L) := by
  intro i
  cases i with
  | zero => simpa using hv
  | succ i => simpa using h i
theorem byt_app (A B : List Int) (hA : Byt A) (hB : Byt B) : Byt (A ++ B) := by
  intro i
  rw [getD_app]
  split
  · exact hA i
  · exact hB _
theorem byt_zeros (n : Nat) : Byt (List.replicate n 0) := by
  intro i
  simp only [List.getD, List.getElem?_replicate]
  split <;> simp
theorem byteAt_bd (x : Int) (i : Nat) : 0 ≤ byteAt x i ∧ byteAt x i ≤ 255 := by unfold byteAt; omega
theorem byt_lo (x : Int) (k : Nat) : Byt (lo x k) := by
  induction k with
  | zero => exact byt_nil
  | succ k ih => exact byt_cons _ _ (byteAt_bd x k) ih
theorem byt_tailK (z : Nat) (x : Int) (k : Nat) : Byt (tailK z x k) := byt_app _ _ (byt_cons _ _ (by omega) (byt_zeros _)) (byt_lo _ _)
theorem byt_padT (M : List Int) : Byt (padT M) := byt_tailK _ _ _
theorem length_padT (M : List Int) : (padT M).length = zs M.length + 9 := length_tailK _ _ _ (Nat.le_refl _)

/-- Byte i of a digest's words. -/
def dgb (ws : List Int) (i : Nat) : Int := ws.getD (i / 4) 0 / 2 ^ (24 - 8 * (i % 4)) % 256
def dgl (ws : List Int) : Nat → List Int
  | 0 => []
  | k + 1 => dgl ws k ++ [dgb ws k]
theorem length_dgl (ws : List Int) (k : Nat) : (dgl ws k).length = k := by
  induction k with
  | zero => rfl
  | succ k ih => simp [dgl, ih]
theorem dgb_bd (ws : List Int) (i : Nat) : 0 ≤ dgb ws i ∧ dgb ws i ≤ 255 := by unfold dgb; omega
theorem byt_dgl (ws : List Int) (k : Nat) : Byt (dgl ws k) := by
  induction k with
  | zero => exact byt_nil
  | succ k ih => exact byt_app _ _ ih (byt_cons _ _ (dgb_bd ws k) byt_nil)
/-- The digest of bytes. -/
def sha (M : List Int) : List Int := dgl (blk (M ++ padT M) ((M.length + zs M.length + 9) / 64)) 32
theorem length_sha (M : List Int) : (sha M).length = 32 := length_dgl _ _
theorem byt_sha (M : List Int) : Byt (sha M) := byt_dgl _ _

/-- A row of bytes, filled up by noughts to n. -/
def fil8 (X : List Int) (n : Nat) : Array Value := u8s (X ++ List.replicate (n - X.length) 0)
theorem size_fil8 (X : List Int) (n : Nat) (h : X.length ≤ n) : (fil8 X n).size = n := by simp [fil8, u8s]; omega
theorem fil8_set (X : List Int) (n : Nat) (v : Int) (h : X.length < n) : (fil8 X n).setIfInBounds X.length (.int .u8 v) = fil8 (X ++ [v]) n := by
  obtain ⟨m, hm⟩ : ∃ m, n - X.length = m + 1 := ⟨n - X.length - 1, by omega⟩
  have hm' : n - (X ++ [v]).length = m := by simp; omega
  unfold fil8 u8s
  rw [hm, hm']
  simp [List.replicate_succ]
theorem fil8_full (X : List Int) (n : Nat) (h : X.length = n) : fil8 X n = u8s X := by simp [fil8, h]
theorem fil8_some (X : List Int) (n i : Nat) (h : i < n) (hX : X.length ≤ n) : ∃ v, (fil8 X n)[i]? = some v := by
  have : i < (fil8 X n).size := by rw [size_fil8 X n hX]; exact h
  exact ⟨_, Array.getElem?_eq_getElem this⟩
theorem u8s_set (L : List Int) (k : Nat) (v : Int) : (u8s L).setIfInBounds k (.int .u8 v) = u8s (L.set k v) := by simp [u8s, List.map_set]
theorem made_u8s {w' : World} {base g n : Nat} (h : w'.ownsRow base 5 1 (.slice (some ⟨g, 0, none⟩) n n) n (madeCells (Value.int .u8 0).cells (n * 1)).toList) :
    w'.heap[g]? = some (.cells (u8s (List.replicate n 0)) 5 (0, 0)) := by
  obtain ⟨h1, h2⟩ := h
  rcases h2 with ⟨h3, _⟩ | ⟨g', cap, cur, h3, _, hh, _, _, hs, ht⟩
  · simp at h3
  · simp only [Value.slice.injEq, Option.some.injEq, Addr.mk.injEq, and_true, true_and] at h3
    obtain ⟨rfl, rfl⟩ := h3
    have e : (Value.int .u8 0).cells = #[Value.int .u8 0] := rfl
    rw [e, toList_madeCells_one, Nat.mul_one, List.take_of_length_le (by simp at hs ⊢; omega)] at ht
    have e2 : cur = u8s (List.replicate n 0) := by
      rw [← Array.toList_inj, ht]; simp [u8s]
    rw [hh, e2]
theorem bytes_of_row {w : World} {g : Nat} {X : List Int} {t : TypeId} {fr : Nat × Nat} (hX : Byt X) (hg : w.heap[g]? = some (.cells (u8s X) t fr)) : Bytes w (some ⟨g, 0, none⟩) X.length X :=
  ⟨rfl, hX, fun _ => ⟨g, 0, rfl, (Array.getElem?_eq_some_iff.1 hg).1, fun i hi => by rw [Nat.zero_add]; exact row_cell w g i X t fr hg hi⟩⟩
end Go.Proofs.YtnicgmimhgbcfaaGreatDoor.Dig.Plain
namespace Go.Proofs.YtnicgmimhgbcfaaGreatDoor.Dig
set_option linter.unusedVariables false
open Go.RowKit Go.Proofs.YtnicgmimhgbcfaaGreatDoor.Dig.Plain

theorem info5 : (Tryz.prog.info? 5).map (fun i => (i.zero, i.size, i.bytes)) = some (some (.int .u8 0), 1, 1) := by kernel_rfl

set_option maxRecDepth 20000 in
set_option maxHeartbeats 400000 in
theorem end_any (G : Nat) (M : List Int) (w : World) (hT : Tabs w) (hG : Gat w G M M.length) (hG2 : 2 ≤ G) (hl : M.length ≤ 900000) :
    Calls Tryz.prog 154 #[.pointer (some ⟨G, 0, none⟩)] w fun e w' => e = .returned (.agg (u8s (sha M))) ∧ But G w w' := by
  obtain ⟨i0, hi, hz0, hz1, hz2⟩ := info_parts info5
  have HG := hG
  obtain ⟨ws, B, held, hg, hI⟩ := hG
  have cT : w.cell? ⟨G, 73, none⟩ = some (.int .u64 M.length) := by rw [cell_of_row _ _ _ _ _ _ hg]; simpa using gc_tot hI.h8 hI.h64 held M.length
  have cH : w.cell? ⟨G, 72, none⟩ = some (.int .i64 held) := by rw [cell_of_row _ _ _ _ _ _ hg]; simpa using gc_held hI.h8 hI.h64 held M.length
  have hheld : held < 64 := by rw [hI.hheld]; omega
  obtain ⟨z, hz⟩ : ∃ z, Hid (zs M.length = z) := ⟨_, rfl⟩
  have hzi : (119 - (held : Int)) % 64 = (z : Int) := by rw [← hz.out, hI.hheld]; unfold zs; omega
  have hzb : z < 64 := by omega
  have hGlt : G < w.heap.size := (Array.getElem?_eq_some_iff.1 hg).1
  have HG' : Hid _ := HG
  clear HG hg hI ws B
  generalize hm : M.length = m at cT hl hz HG'
  obtain ⟨S, HS⟩ : ∃ S, Hid (w.heap.size = S) := ⟨_, rfl⟩
  go_enter Tryz.func154, Tryz.ntmps154
  have hz32 : fil8 [] 32 = #[.int .u8 0, .int .u8 0, .int .u8 0, .int .u8 0, .int .u8 0, .int .u8 0, .int .u8 0, .int .u8 0, .int .u8 0, .int .u8 0, .int .u8 0, .int .u8 0, .int .u8 0, .int .u8 0, .int .u8 0, .int .u8 0, .int .u8 0, .int .u8 0, .int .u8 0, .int .u8 0, .int .u8 0, .int .u8 0, .int .u8 0, .int .u8 0, .int .u8 0, .int .u8 0, .int .u8 0, .int .u8 0, .int .u8 0, .int .u8 0, .int .u8 0, .int .u8 0] := rfl
  have HZ32 : Hid _ := hz32
  clear hz32
  go_wp2_with (at_make; refine wpList_make_full _ rfl (.tmp 22) (.tmp 22) 62 rfl _ 5 i0 (.int .u8 0) 1 Tryz.underlying62 hi hz0 hz1 _ _ _ _ (z + 9) rfl rfl (by omega) (by omega) (by rw [hz2]; omega) (by unfold maxLen; omega) (Nat.le_refl _) ?_; intro w1 hown hgrow; have HR0 := made_u8s hown; rw [World.size_alloc] at HR0; have c1 := row_cell w1 _ 0 _ _ _ HR0 (by simp); have f1 := frozen_of_row w1 _ 0 _ 5 HR0; have HR : Hid _ := HR0; have HGR : Hid _ := hgrow; clear hown hgrow HR0)
  rw [← HZ32.out] at HGR
  have HW1 : Hid (w1.heap[w.heap.size]? = some (.cells (fil8 [] 32) 23 (0, 0)) ∧ (∀ k, k < w.heap.size → w1.heap[k]? = w.heap[k]?) ∧ But G w w1) := by
    have hgr := HGR.out
    have hold : ∀ k, k < w.heap.size → w1.heap[k]? = w.heap[k]? := fun k hk => (hgr.block k (by simp; omega) (by simp)).trans (Below.heap_alloc _ _ _ hk)
    refine ⟨(hgr.block w.heap.size (by simp) (by simp)).trans (heap_alloc_new _ _), hold, ⟨hgr.os, hgr.tape, hgr.output, ?_, fun k hk _ => hold k hk⟩⟩
    have := hgr.size
    simp at this
    omega
  have HW2 : Hid ((w1.setCell ⟨w.heap.size + 1, 0, none⟩ (.int .u8 128)).heap[w.heap.size + 1]? = some (.cells (u8s (tailK z (m * 8) 0)) 5 (0, 0)) ∧ (w1.setCell ⟨w.heap.size + 1, 0, none⟩ (.int .u8 128)).heap[w.heap.size]? = some (.cells (fil8 [] 32) 23 (0, 0)) ∧ (∀ k, k < w.heap.size → (w1.setCell ⟨w.heap.size + 1, 0, none⟩ (.int .u8 128)).heap[k]? = w.heap[k]?) ∧ But G w (w1.setCell ⟨w.heap.size + 1, 0, none⟩ (.int .u8 128))) := by
    have hoth : ∀ k, k ≠ w.heap.size + 1 → (w1.setCell ⟨w.heap.size + 1, 0, none⟩ (.int .u8 128)).heap[k]? = w1.heap[k]? := fun k hk => heap_setCell_other w1 ⟨w.heap.size + 1, 0, none⟩ k _ (fun e => hk e)
    obtain ⟨a1, a2, a3⟩ := HW1.out
    refine ⟨?_, (hoth _ (by omega)).trans a1, fun k hk => (hoth k (by omega)).trans (a2 k hk), ⟨a3.os, a3.tape, a3.output, by simpa using a3.size, fun k hk hn => (hoth k (by omega)).trans (a3.block k hk hn)⟩⟩
    rw [heap_setCell_same w1 _ 0 _ 5 _ HR.out, u8s_set]
    simp [tailK, lo, List.replicate_succ]
  generalize w1.setCell ⟨w.heap.size + 1, 0, none⟩ (.int .u8 128) = w2 at HW2 ⊢
  clear HR HGR HW1 c1 f1 cT cH
  go_loopw [26] (fun i wr => ∃ k : Nat, k ≤ 8 ∧ i = .int .i64 k ∧ Hid (wr.heap[w.heap.size + 1]? = some (.cells (u8s (tailK z (m * 8) k)) 5 (0, 0)) ∧ wr.heap[w.heap.size]? = some (.cells (fil8 [] 32) 23 (0, 0)) ∧ (∀ k, k < w.heap.size → wr.heap[k]? = w.heap[k]?) ∧ But G w wr)) (fun i _ => 8 - (intOf i).toNat)
  case atStart => exact ⟨0, by omega, rfl, HW2⟩
  case round =>
    clear HW2 w2 w1
    obtain ⟨k, hk, rfl, HWr⟩ := hrel
    by_cases hlt : k < 8
    · obtain ⟨q, HQ⟩ : ∃ q, Hid (z + 8 - k = q) := ⟨_, rfl⟩
      have hq : z + 8 - k = q := HQ.out
      have eq1 : (z : Int) + 9 - 1 - k = (q : Int) := by omega
      have lq : q < z + 9 := by omega
      have c1 := row_cell wr (w.heap.size + 1) q _ _ _ HWr.out.1 (by rw [length_tailK _ _ _ (by omega)]; omega)
      have f1 : wr.frozen? ⟨w.heap.size + 1, q, none⟩ = false := frozen_of_row wr _ _ _ 5 HWr.out.1
      have HW3 : Hid ((wr.setCell ⟨w.heap.size + 1, q, none⟩ (.int .u8 (byteAt (m * 8) k))).heap[w.heap.size + 1]? = some (.cells (u8s (tailK z (m * 8) (k + 1))) 5 (0, 0)) ∧ (wr.setCell ⟨w.heap.size + 1, q, none⟩ (.int .u8 (byteAt (m * 8) k))).heap[w.heap.size]? = some (.cells (fil8 [] 32) 23 (0, 0)) ∧ (∀ k', k' < w.heap.size → (wr.setCell ⟨w.heap.size + 1, q, none⟩ (.int .u8 (byteAt (m * 8) k))).heap[k']? = w.heap[k']?) ∧ But G w (wr.setCell ⟨w.heap.size + 1, q, none⟩ (.int .u8 (byteAt (m * 8) k)))) := by
        have hoth : ∀ k', k' ≠ w.heap.size + 1 → (wr.setCell ⟨w.heap.size + 1, q, none⟩ (.int .u8 (byteAt (m * 8) k))).heap[k']? = wr.heap[k']? := fun k' hk => heap_setCell_other wr ⟨w.heap.size + 1, q, none⟩ k' _ (fun e => hk e)
        obtain ⟨a0, a1, a2, a3⟩ := HWr.out
        refine ⟨?_, (hoth _ (by omega)).trans a1, fun k hk => (hoth k (by omega)).trans (a2 k hk), ⟨a3.os, a3.tape, a3.output, by simpa using a3.size, fun k hk hn => (hoth k (by omega)).trans (a3.block k hk hn)⟩⟩
        rw [heap_setCell_same wr _ q _ 5 _ a0, u8s_set, ← hq, tailK_set z _ k hlt]
      clear hq
      go_wp2
      go_roundw
      case rel => exact ⟨k + 1, by omega, by go_num, HW3⟩
      case measure => simp [intOf]; omega
    · obtain rfl : k = 8 := by omega
      have HPT : Hid (padT M = tailK z (m * 8) 8) := by rw [Hid, padT, hm, hz.out]
      have hlen := length_tailK z (m * 8) 8 (Nat.le_refl _)
      obtain ⟨a0, a1, a2, a3⟩ := HWr.out
      have hBT : Bytes wr (some ⟨w.heap.size + 1, 0, none⟩) (z + 9) (tailK z (m * 8) 8) := by
        have := bytes_of_row (byt_tailK z (m * 8) 8) a0
        rwa [hlen] at this
      have hTr : Tabs wr := hT.below' a3 hG2
      have hGr : Gat wr G M M.length := by
        obtain ⟨ws, B, held, h1, h2⟩ := HG'.out
        exact ⟨ws, B, held, by rw [a2 G hGlt, hm]; exact h1, h2⟩
      have HADD := add_any G (z + 9) (z + 9) (some ⟨w.heap.size + 1, 0, none⟩) (tailK z (m * 8) 8) M wr hTr hGr hG2 hBT (fun _ ad e => by cases e; show w.heap.size + 1 ≠ G; omega) (by omega) (Nat.le_refl _) (by omega)
      rw [← HPT.out, hm] at HADD
      have HA : Hid (Calls Tryz.prog 153 #[.pointer (some ⟨G, 0, none⟩), .slice (some ⟨w.heap.size + 1, 0, none⟩) (z + 9) (z + 9)] wr fun e w' => e = .returned (.tuple #[]) ∧ Gat w' G (M ++ padT M) (m + (z + 9)) ∧ But G wr w') := HADD
      have HRR : Hid (wr.heap[w.heap.size]? = some (.cells (fil8 [] 32) 23 (0, 0)) ∧ But G w wr) := ⟨a1, a3⟩
      have hzm : zs m = z := hz.out
      have HML : Hid ((M ++ padT M).length = m + (z + 9)) := by rw [Hid, List.length_append, length_padT, hm, hzm]
      have hmod : (m + (z + 9)) % 64 = 0 := by rw [← hzm]; unfold zs; omega
      have HMOD : Hid _ := hmod
      have HSHA : Hid (dgl (blk (M ++ padT M) ((m + (z + 9)) / 64)) 32 = sha M) := by rw [Hid, sha, hm, hzm, Nat.add_assoc]
      clear a0 a1 a2 a3 hBT hTr hGr HADD hlen HPT HWr HG' hz hmod hzm hzi hm
      generalize padT M = PT at HA HML HSHA
      go_wp2_with (go_at_call 153; refine Calls.mono HA.out ?_; rintro e w3 ⟨rfl, hg3, hb3⟩; obtain ⟨ws, B, held', h1, hI⟩ := hg3; have HG3 : Hid _ := h1; have HI : Hid _ := hI; have HB3 : Hid _ := hb3; clear h1 hI hb3)
      have hws : ws = blk (M ++ PT) ((m + (z + 9)) / 64) := by rw [← HML.out]; exact HI.out.hws
      have h8 := HI.out.h8
      have hwrd := HI.out.wrd
      have HSH : Box (dgl ws 32 = sha M) := ⟨by rw [hws]; exact HSHA.out⟩
      clear HSHA
      obtain ⟨O, HO⟩ : ∃ O, Hid (w3.heap.size = O) := ⟨_, rfl⟩
      rw [HO.out]
      have hGO : G < O := by rw [← HO.out]; exact (Array.getElem?_eq_some_iff.1 HG3.out).1
      have hSO : w.heap.size < O := by
        rw [← HO.out]
        exact Nat.lt_of_lt_of_le (Array.getElem?_eq_some_iff.1 HRR.out.1).1 HB3.out.size
      have hr3 : w3.heap[w.heap.size]? = some (.cells (fil8 [] 32) 23 (0, 0)) := by rw [HB3.out.block _ (Array.getElem?_eq_some_iff.1 HRR.out.1).1 (by omega)]; exact HRR.out.1
      have hb03 : But G w w3 := HRR.out.2.trans HB3.out
      rw [← HZ32.out]
      have HX : Hid ((w3.alloc (.cells (fil8 [] 32) 23)).heap[G]? = some (.cells (gc ws B held' (m + (z + 9) : Nat)).toArray 252 (0, 0)) ∧ (w3.alloc (.cells (fil8 [] 32) 23)).heap[w.heap.size]? = some (.cells (fil8 [] 32) 23 (0, 0)) ∧ (w3.alloc (.cells (fil8 [] 32) 23)).heap[O]? = some (.cells (fil8 (dgl ws 0) 32) 23 (0, 0)) ∧ But G w (w3.alloc (.cells (fil8 [] 32) 23))) := by
        refine ⟨al_old HG3.out, al_old hr3, al_at HO.out, hb03.trans (But.of_below ((Below.refl _ _).alloc (Nat.le_refl _) _))⟩
      clear hr3 hb03 HB3 HRR HA HML HMOD HG3 hws hlt hk hi hz0 hz1 hz2
      generalize w3.alloc (.cells (fil8 [] 32) 23) = w4 at HX ⊢
      have h64 := HI.out.h64
      clear HI HO HZ32 w3 wr
      go_loopw [45] (fun i wr => ∃ k : Nat, k ≤ 32 ∧ i = .int .i64 k ∧ Hid (wr.heap[G]? = some (.cells (gc ws B held' (m + (z + 9) : Nat)).toArray 252 (0, 0)) ∧ wr.heap[w.heap.size]? = some (.cells (fil8 [] 32) 23 (0, 0)) ∧ wr.heap[O]? = some (.cells (fil8 (dgl ws k) 32) 23 (0, 0)) ∧ But G w wr)) (fun i _ => 32 - (intOf i).toNat)
      case atStart => exact ⟨0, by omega, rfl, HX⟩
      case round =>
        clear HX w4
        obtain ⟨k, hk, rfl, HWr⟩ := hrel
        by_cases hlt : k < 32
        · obtain ⟨q, HQ⟩ : ∃ q, Hid (k / 4 = q) := ⟨_, rfl⟩
          obtain ⟨r, HR⟩ : ∃ r, Hid (k % 4 = r) := ⟨_, rfl⟩
          have hq : k / 4 = q := HQ.out
          have hr : k % 4 = r := HR.out
          have eq1 : (k : Int) / 4 = (q : Int) := by omega
          have eq2 : (k : Int) % 4 = (r : Int) := by omega
          have lq : q < 8 := by omega
          have lr : r < 4 := by omega
          have c1 : wr.cell? ⟨G, q, none⟩ = some (.int .u32 (ws.getD q 0)) := by
            rw [cell_of_row _ _ _ _ _ _ HWr.out.1]
            have := gc_words h8 held' (m + (z + 9) : Nat) (B := B) q lq
            simpa using this
          have b1 := hwrd q
          obtain ⟨b1, b2⟩ := b1
          have HD : Hid (dgb ws k = ws.getD q 0 / 2 ^ (24 - 8 * r) % 256) := by rw [Hid, dgb, hq, hr]
          generalize ws.getD q 0 = y at c1 b1 b2 HD
          have hln := length_dgl ws k
          have f1 : wr.frozen? ⟨O, k, none⟩ = false := frozen_of_row wr _ _ _ 23 HWr.out.2.2.1
          obtain ⟨v, hcw⟩ : ∃ v, wr.cell? ⟨O, k, none⟩ = some v := by
            obtain ⟨v, hv⟩ := fil8_some (dgl ws k) 32 k hlt (by omega)
            exact ⟨v, by rw [cell_of_row _ _ _ _ _ _ HWr.out.2.2.1]; exact hv⟩
          have HW3 : Hid ((wr.setCell ⟨O, k, none⟩ (.int .u8 (dgb ws k))).heap[G]? = some (.cells (gc ws B held' (m + (z + 9) : Nat)).toArray 252 (0, 0)) ∧ (wr.setCell ⟨O, k, none⟩ (.int .u8 (dgb ws k))).heap[w.heap.size]? = some (.cells (fil8 [] 32) 23 (0, 0)) ∧ (wr.setCell ⟨O, k, none⟩ (.int .u8 (dgb ws k))).heap[O]? = some (.cells (fil8 (dgl ws (k + 1)) 32) 23 (0, 0)) ∧ But G w (wr.setCell ⟨O, k, none⟩ (.int .u8 (dgb ws k)))) := by
            have hoth : ∀ k', k' ≠ O → (wr.setCell ⟨O, k, none⟩ (.int .u8 (dgb ws k))).heap[k']? = wr.heap[k']? := fun k' hk => heap_setCell_other wr ⟨O, k, none⟩ k' _ (fun e => hk e)
            obtain ⟨a0, a1, a2, a3⟩ := HWr.out
            refine ⟨(hoth _ (by omega)).trans a0, (hoth _ (by omega)).trans a1, ?_, ⟨a3.os, a3.tape, a3.output, by simpa using a3.size, fun k hk hn => (hoth k (by omega)).trans (a3.block k hk hn)⟩⟩
            rw [heap_setCell_same wr _ k _ 23 _ a2, dgl, ← fil8_set _ _ _ (by omega), hln]
          clear hq hr hln HQ HR
          go_wp2
          go_roundw
          case rel => exact ⟨k + 1, by omega, by go_num, by rw [← HD.out]; exact HW3⟩
          case measure => simp [intOf]; omega
        · obtain rfl : k = 32 := by omega
          obtain ⟨a0, a1, a2, a3⟩ := HWr.out
          obtain ⟨X, HX⟩ : ∃ X, Box (sha M = X) := ⟨_, ⟨rfl⟩⟩
          rw [fil8_full _ 32 (length_dgl ws 32), HSH.out, HX.out] at a2
          have hXl : (u8s X).size = 32 := by rw [← HX.out, size_u8s, length_sha]
          have HF : Box ((u8s X).size = 32 ∧ (u8s X).all (·.oneCell') = true ∧ wr.heap[O]? = some (.cells (u8s X) 23 (0, 0)) ∧ wr.heap[w.heap.size]? = some (.cells (fil8 [] 32) 23 (0, 0)) ∧ But G w wr) := ⟨hXl, all_u8s X, a2, a1, a3⟩
          clear a0 a1 a2 a3 hXl HSH HWr
          go_wp2_with (first | (refine wpList_load_row rfl 23 _ rfl O rfl 23 (u8s X) (0, 0) _ HF.out.2.2.1 Tryz.underlying23 rfl (by rw [HF.out.1]; kernel_rfl) ?_) | (refine wpList_store_row rfl 23 _ _ rfl w.heap.size (u8s X) rfl rfl 23 (fil8 [] 32) HF.out.2.2.2.1 (by rw [HF.out.1]; kernel_rfl) (by rw [HF.out.1]; rfl) HF.out.2.1 ?_))
          (try simp only [Exit.inBlock, Exit.then])
          refine bodyPost_ret (results_cell_row (p := 2) (ty := 23) rfl _ _ w.heap.size 23 (u8s X) (0, 0) _ rfl (setRow_heap _ _ _ _ _ _ HF.out.2.2.2.1) Tryz.underlying23 rfl (by rw [HF.out.1]; kernel_rfl)) rfl ?_
          refine ⟨by rw [HX.out], ?_⟩
          obtain ⟨_, _, _, _, hb⟩ := HF.out
          exact ⟨hb.os, hb.tape, hb.output, by simpa [World.setRow] using hb.size, fun k hk hn => by rw [setRow_other _ _ k _ (by omega)]; exact hb.block k hk hn⟩
end Go.Proofs.YtnicgmimhgbcfaaGreatDoor.Dig
namespace Go.Proofs.YtnicgmimhgbcfaaGreatDoor.Dig
set_option linter.unusedVariables false
open Go.RowKit Go.Proofs.YtnicgmimhgbcfaaGreatDoor.Dig.Plain

def joinTo (C : Nat → List Int) : Nat → List Int
  | 0 => []
  | k + 1 => joinTo C k ++ C k
/-- Pieces stand, one behind the other, where a slice's address says. -/
def Pcs (w : World) (a : Option Addr) (n : Nat) (va : Nat → Option Addr) (vl vc : Nat → Nat) (C : Nat → List Int) : Prop :=
  (0 < n → ∃ b off, a = some ⟨b, off, none⟩ ∧ b < w.heap.size ∧ ∀ i, i < n → w.cell? ⟨b, off + i, none⟩ = some (.slice (va i) (vl i) (vc i))) ∧
  ∀ i, i < n → Bytes w (va i) (vl i) (C i) ∧ vl i ≤ vc i ∧ vc i ≤ 9223372036854775807
theorem joinTo_le (C : Nat → List Int) (k n : Nat) (h : k ≤ n) : (joinTo C k).length ≤ (joinTo C n).length := by
  induction n with
  | zero => rw [Nat.le_zero.1 h]; exact Nat.le_refl _
  | succ n ih =>
    by_cases e : k = n + 1
    · rw [e]; exact Nat.le_refl _
    · have := ih (by omega)
      rw [joinTo, List.length_append]; omega
theorem bytes_but {w w' : World} {G : Nat} {a : Option Addr} {len : Nat} {L : List Int} (h : Bytes w a len L) (hb : But G w w') (hn : w.heap.size ≤ G) : Bytes w' a len L := by
  refine ⟨h.1, h.2.1, fun hp => ?_⟩
  obtain ⟨b, off, e, hlt, hc⟩ := h.2.2 hp
  exact ⟨b, off, e, Nat.lt_of_lt_of_le hlt hb.size, fun i hi => (hb.cell hlt (by omega)).trans (hc i hi)⟩

theorem built47 : (Tryz.prog.built 252 [(0, .agg (u32s hh))]) = some (gc hh (List.replicate 64 0) 0 0).toArray := by kernel_rfl
theorem wpList_build47 {ops : Array Oper} {rest : List Oper} {o : Oper} {a : Act} {w : World} {Q : Exit → Act → World → Prop} (hg : o.guard = none) (x : Operand) (ho : o.op = .build 252 #[(0, x)]) (hx : a.eval x = .agg (u32s hh))
    (h : wpList Tryz.prog ops Q rest (a.put o.dst (.agg (gc hh (List.replicate 64 0) 0 0).toArray)) w) : wpList Tryz.prog ops Q (o :: rest) a w := by
  have e : Tryz.prog.built 252 ((#[(0, x)] : Array (Nat × Operand)).map fun (i, x) => (i, a.eval x)).toList = some (gc hh (List.replicate 64 0) 0 0).toArray := by
    simp only [List.map_toArray, List.map_cons, List.map_nil, hx]
    exact built47
  refine wpList_build hg 252 _ ho ?_ ?_
  · rw [e]; rfl
  · rw [e]; exact h
theorem zero47 (x : World) : (zeroValue 252).run Tryz.prog x = .ok (.agg (gc (List.replicate 8 0) (List.replicate 64 0) 0 0).toArray) x := by kernel_rfl
theorem gat_start {w : World} {G : Nat} (h : w.heap[G]? = some (.cells (gc hh (List.replicate 64 0) 0 0).toArray 252 (0, 0))) : Gat w G [] 0 := ⟨_, _, _, h, Inv.start⟩

set_option maxRecDepth 20000 in
set_option maxHeartbeats 400000 in
theorem pieces_any (a : Option Addr) (n cap : Nat) (va : Nat → Option Addr) (vl vc : Nat → Nat) (C : Nat → List Int) (w : World) (hT : Tabs w) (hP : Pcs w a n va vl vc C) (hl : (joinTo C n).length ≤ 900000) (hn : n ≤ maxLen) :
    Calls Tryz.prog 128 #[.slice a n cap] w fun e w' => e = .returned (.agg (u8s (sha (joinTo C n)))) ∧ Below w.heap.size w w' := by
  unfold maxLen at hn
  have HR0 : Hid (w.rangeAt 0 0 (hh.map (Value.int .u32))) := by
    intro j v hj
    have hj8 : j < 8 := by simpa [hh] using (List.getElem?_eq_some_iff.1 hj).1
    rw [Nat.zero_add, hT.2.1 j hj8, ← hj, List.getElem?_map, getD_of_lt hh j hj8]; rfl
  have h2 := hT.1
  go_enter Tryz.func128, Tryz.ntmps128
  have HZ : Hid ((gc hh (List.replicate 64 0) 0 0).toArray.size = 74 ∧ (gc hh (List.replicate 64 0) 0 0).toArray.all (·.oneCell') = true) := ⟨rfl, by kernel_rfl⟩
  obtain ⟨g0, HG0⟩ : ∃ g0, Box ((gc hh (List.replicate 64 0) 0 0).toArray = g0) := ⟨_, ⟨rfl⟩⟩
  obtain ⟨z0, HZ0⟩ : ∃ z0, Box ((gc (List.replicate 8 0) (List.replicate 64 0) 0 0).toArray = z0) := ⟨_, ⟨rfl⟩⟩
  have hz0 := zero47
  rw [HZ0.out] at hz0
  have hz0s : z0.size = 74 := by rw [← HZ0.out]; rfl
  have HZS : Hid _ := hz0s
  clear hz0s
  go_wp2_with (first | (refine wpList_load_mid rfl 154 _ rfl 0 0 rfl (hh.map (Value.int .u32)) _ (World.rangeAt_alloc HR0.out _) Tryz.underlying154 rfl (by kernel_rfl) ?_) | (refine wpList_build47 rfl (.tmp 6) rfl rfl ?_; rw [HG0.out]) | (refine wpList_store_row rfl 252 (.tmp 3) (.tmp 7) rfl (w.heap.size + 1) g0 rfl rfl 252 z0 (al_at (by simp)) (by rw [← HG0.out, HZ.out.1]; kernel_rfl) (by rw [← HG0.out, HZ.out.1]; exact HZS.out) (by rw [← HG0.out]; exact HZ.out.2) ?_))
  have HZ32 : Hid (fil8 [] 32 = #[.int .u8 0, .int .u8 0, .int .u8 0, .int .u8 0, .int .u8 0, .int .u8 0, .int .u8 0, .int .u8 0, .int .u8 0, .int .u8 0, .int .u8 0, .int .u8 0, .int .u8 0, .int .u8 0, .int .u8 0, .int .u8 0, .int .u8 0, .int .u8 0, .int .u8 0, .int .u8 0, .int .u8 0, .int .u8 0, .int .u8 0, .int .u8 0, .int .u8 0, .int .u8 0, .int .u8 0, .int .u8 0, .int .u8 0, .int .u8 0, .int .u8 0, .int .u8 0]) := rfl
  rw [← HZ32.out]
  have HX : Hid ((((w.alloc (.cells (fil8 [] 32) 23)).alloc (.cells z0 252)).setRow (w.heap.size + 1) g0).heap[w.heap.size]? = some (.cells (fil8 [] 32) 23 (0, 0)) ∧ Gat (((w.alloc (.cells (fil8 [] 32) 23)).alloc (.cells z0 252)).setRow (w.heap.size + 1) g0) (w.heap.size + 1) [] 0 ∧ But (w.heap.size + 1) w (((w.alloc (.cells (fil8 [] 32) 23)).alloc (.cells z0 252)).setRow (w.heap.size + 1) g0)) := by
    refine ⟨?_, gat_start ?_, ?_⟩
    · rw [setRow_other _ _ _ _ (by omega)]; exact al_old (al_at rfl)
    · rw [setRow_heap _ _ z0 _ 252 (0, 0) (al_at (by simp)), HG0.out]
    · exact (But.of_below (((Below.refl _ _).alloc (Nat.le_refl _) _).alloc (by simp) _)).setRow _
  generalize ((w.alloc (.cells (fil8 [] 32) 23)).alloc (.cells z0 252)).setRow (w.heap.size + 1) g0 = x0 at HX ⊢
  clear hz0 HZ0 HZS HG0 HZ HR0 HZ32
  go_loopw [10] (fun i wr => ∃ k : Nat, k ≤ n ∧ i = .int .i64 k ∧ Hid (wr.heap[w.heap.size]? = some (.cells (fil8 [] 32) 23 (0, 0)) ∧ Gat wr (w.heap.size + 1) (joinTo C k) (joinTo C k).length ∧ But (w.heap.size + 1) w wr)) (fun i _ => n - (intOf i).toNat)
  case atStart => exact ⟨0, by omega, rfl, HX⟩
  case round =>
    clear HX x0
    obtain ⟨k, hk, rfl, HWr⟩ := hrel
    obtain ⟨a1, a2, a3⟩ := HWr.out
    have hTr : Tabs wr := hT.below' a3 (by omega)
    by_cases hlt : k < n
    · obtain ⟨hp1, hp2⟩ := hP
      obtain ⟨b, off, rfl, hb, hc⟩ := hp1 (by omega)
      obtain ⟨hB, hv1, hv2⟩ := hp2 k hlt
      have hck : wr.cell? ⟨b, off + k, none⟩ = some (.slice (va k) (vl k) (vc k)) := (a3.cell hb (by omega)).trans (hc k hlt)
      have hjl := joinTo_le C (k + 1) n (by omega)
      have hjs : (joinTo C (k + 1)).length = (joinTo C k).length + vl k := by rw [joinTo, List.length_append, hB.1]
      have HADD : Hid (Calls Tryz.prog 153 #[.pointer (some ⟨w.heap.size + 1, 0, none⟩), .slice (va k) (vl k) (vc k)] wr fun e w' => e = .returned (.tuple #[]) ∧ Gat w' (w.heap.size + 1) (joinTo C (k + 1)) (joinTo C (k + 1)).length ∧ But (w.heap.size + 1) wr w') := by
        rw [hjs]
        refine add_any (w.heap.size + 1) (vl k) (vc k) (va k) (C k) (joinTo C k) wr hTr a2 (by omega) (bytes_but hB a3 (by omega)) (fun hv0 ad e => ?_) (by omega) hv1 hv2
        obtain ⟨b', off', e', hb', _⟩ := hB.2.2 hv0
        rw [e'] at e; cases e; show b' ≠ _; omega
      have HR : Hid (wr.heap[w.heap.size]? = some (.cells (fil8 [] 32) 23 (0, 0)) ∧ But (w.heap.size + 1) w wr) := ⟨a1, a3⟩
      clear hp1 hp2 hc hB hv1 hv2 hjs hjl a1 a2 a3 HWr
      go_wp2_with (go_at_call 153; refine Calls.mono HADD.out ?_; rintro e w3 ⟨rfl, hg3, hb3⟩; have HG3 : Hid _ := hg3; have HB3 : Hid _ := hb3; clear hg3 hb3)
      go_roundw
      case rel =>
        refine ⟨k + 1, by omega, by go_num, ?_, HG3.out, HR.out.2.trans HB3.out⟩
        rw [HB3.out.block _ (Array.getElem?_eq_some_iff.1 HR.out.1).1 (by omega)]; exact HR.out.1
      case measure => simp [intOf]; omega
    · obtain rfl : k = n := by omega
      have HEND : Hid _ := end_any (w.heap.size + 1) (joinTo C k) wr hTr a2 (by omega) hl
      obtain ⟨X, HX⟩ : ∃ X, Box (sha (joinTo C k) = X) := ⟨_, ⟨rfl⟩⟩
      have hXs : (u8s X).size = 32 := by rw [← HX.out, size_u8s, length_sha]
      have HEN : Box (Calls Tryz.prog 154 #[.pointer (some ⟨w.heap.size + 1, 0, none⟩)] wr fun e w' => e = .returned (.agg (u8s X)) ∧ But (w.heap.size + 1) wr w') := ⟨by rw [← HX.out]; exact HEND.out⟩
      have HR : Hid (wr.heap[w.heap.size]? = some (.cells (fil8 [] 32) 23 (0, 0)) ∧ But (w.heap.size + 1) w wr) := ⟨a1, a3⟩
      have HXs : Hid ((u8s X).size = 32) := hXs
      clear HEND a1 a2 a3 HWr hXs hP
      go_wp2_with (first | (go_at_call 154; refine Calls.mono HEN.out ?_; rintro e w3 ⟨rfl, hb3⟩; have HB3 : Hid _ := hb3; have HR3 : Hid (w3.heap[w.heap.size]? = some (.cells (fil8 [] 32) 23 (0, 0))) := (hb3.block _ (Array.getElem?_eq_some_iff.1 HR.out.1).1 (Nat.ne_of_lt (Nat.lt_succ_self _))).trans HR.out.1; clear hb3) | (refine wpList_store_row rfl 23 _ _ rfl w.heap.size (u8s X) rfl rfl 23 (fil8 [] 32) HR3.out (by rw [HXs.out]; kernel_rfl) (by rw [HXs.out]; rfl) (all_u8s X) ?_))
      (try simp only [Exit.inBlock, Exit.then])
      refine bodyPost_ret (results_cell_row (p := 2) (ty := 23) rfl _ _ w.heap.size 23 (u8s X) (0, 0) _ rfl (setRow_heap _ _ _ _ _ _ HR3.out) Tryz.underlying23 rfl (by rw [HXs.out]; kernel_rfl)) rfl ?_
      exact ⟨by rw [HX.out], below_setRow ((HR.out.2.trans HB3.out).below (by omega) (Nat.le_refl _)) (Nat.le_refl _) _⟩

/-- A piece: where it stands, how long it is, what it holds. -/
structure Pc where
  a : Option Addr
  l : Nat
  c : Nat
  b : List Int
def Pc.none : Pc := ⟨Option.none, 0, 0, []⟩
def Pc.val (p : Pc) : Value := .slice p.a p.l p.c
def Pc.ok (p : Pc) (w : World) : Prop := Bytes w p.a p.l p.b ∧ p.l ≤ p.c ∧ p.c ≤ 9223372036854775807
def pcv (P : List Pc) : Array Value := (P.map Pc.val).toArray
theorem pcs_list {w : World} {g : Nat} {t : TypeId} {fr : Nat × Nat} (P : List Pc) (hg : w.heap[g]? = some (.cells (pcv P) t fr)) (hP : ∀ p ∈ P, p.ok w) :
    Pcs w (some ⟨g, 0, Option.none⟩) P.length (fun i => (P.getD i Pc.none).a) (fun i => (P.getD i Pc.none).l) (fun i => (P.getD i Pc.none).c) (fun i => (P.getD i Pc.none).b) := by
  refine ⟨fun _ => ⟨g, 0, rfl, (Array.getElem?_eq_some_iff.1 hg).1, fun i hi => ?_⟩, fun i hi => ?_⟩
  · rw [cell_of_row _ _ _ _ _ _ hg, Nat.zero_add]
    simp [pcv, hi, Pc.val]
  · have := hP (P.getD i Pc.none) (by simp [hi])
    exact this
theorem Bytes.none (w : World) : Bytes w Option.none 0 [] := ⟨rfl, byt_nil, fun h => absurd h (by omega)⟩
theorem Pc.none_ok (w : World) : Pc.none.ok w := ⟨Bytes.none w, Nat.le_refl _, by simp [Pc.none]⟩
theorem Pc.ok.below {p : Pc} {w w' : World} (h : p.ok w) (hb : Below w.heap.size w w') : p.ok w' := ⟨h.1.below hb, h.2⟩

/-- What Pieces answers for pieces that were just laid down in a block of their own. -/
theorem pieces_list (P : List Pc) (g n : Nat) (X : List Int) (t : TypeId) (fr : Nat × Nat) (w : World) (hT : Tabs w) (hg : w.heap[g]? = some (.cells (pcv P) t fr)) (hP : ∀ p ∈ P, p.ok w) (hn : P.length = n) (hn' : n ≤ 1000) (hX : joinTo (fun i => (P.getD i Pc.none).b) n = X) (hl : X.length ≤ 900000) :
    Calls Tryz.prog 128 #[.slice (some ⟨g, 0, Option.none⟩) n n] w fun e w' => e = .returned (.agg (u8s (sha X))) ∧ Below w.heap.size w w' := by
  subst hn
  subst hX
  exact pieces_any _ P.length P.length _ _ _ _ w hT (pcs_list P hg hP) hl (by unfold maxLen; omega)

end Go.Proofs.YtnicgmimhgbcfaaGreatDoor.Dig
