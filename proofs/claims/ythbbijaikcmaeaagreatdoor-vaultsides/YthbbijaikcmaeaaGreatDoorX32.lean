/-
  What write of package vault leaves: an item written to the side that does not count. And what follows it.
-/
import Derived.Test.YthbbijaikcmaeaaGreatDoorX31
import Derived.Deep.QuietTactic
import Derived.BigQuiet
namespace Go.Proofs.YthbbijaikcmaeaaGreatDoor
set_option maxRecDepth 100000
set_option linter.unusedVariables false
set_option maxRecDepth 100000
open Go.RowKit Go.Shelf Plain Go.Proofs.YthbbijaikcmaeaaGreatDoor.Shap.Plain
attribute [local go_sem] Oper.semAt_some
theorem dwrite_v {w0 w : World} {D : Nat} {fp : Nat → Prop} {d : Disk.Dk} (C : Disk.Cx w0 w D fp d) (p : Nat) (a : Option Addr) (cap : Nat) (B : List Int) (hB : Bytes w a 192 B) (hap : ∀ ad, a = some ad → ¬ fp ad.block) (hi : p < d.n) (hl : 0 ≤ d.left ∧ d.left ≤ 9223372036854775807) (ho : d.ops.length < 1000000) (hu : d.uw.length < 1000000) :
    Calls Tryz.prog 55 #[.pointer (some ⟨D, 0, none⟩), .int .i64 (p : Int), .slice a 192 cap] w fun e w' => e = .returned (.int .i64 (Xd.wr d p B).2) ∧ (Xd.wr d p B).1.n = d.n ∧ ∃ fp', Disk.Cx w0 w' D fp' (Xd.wr d p B).1 ∧ Disk.Fol w fp w' fp' := by
  by_cases hd : d.down = true
  · refine (Disk.write_down w D fp d C.is p a 192 cap hd).mono ?_
    rintro e w' ⟨rfl, rfl⟩
    simp only [Xd, hd, if_true]
    exact ⟨trivial, trivial, fp, C, ⟨Disk.Turned.refl _ _, fun _ _ h => h⟩⟩
  · have hd' : d.down = false := by simpa using hd
    by_cases hs : d.st = true ∧ d.left = 0
    · refine (Disk.write_stop w D fp d C.is p a 192 cap hd' (by simp [Disk.fit, Disk.hsp, hi]) hs.1 hs.2).mono ?_
      rintro e w' ⟨rfl, h2⟩
      have e : Xd.wr d p B = (({ d with down := true } : Disk.Dk), 13) := by simp only [Xd]; rw [if_neg hd, if_pos hs]
      rw [e]
      exact ⟨rfl, rfl, C.nx h2⟩
    · refine (Disk.write_cx C p a cap B hB hap hd' hi (fun h1 h2 => hs ⟨h1, h2⟩) hl ho hu).mono ?_
      rintro e w' ⟨rfl, h2⟩
      simp only [Xd, hd', hs, Bool.false_eq_true, if_false]
      exact ⟨trivial, rfl, h2⟩
theorem vcs_next (D : Nat) (v : Vt) (sa : Option Addr) (sc : Nat) (ok : v.Ok) (x : Int) : (vcs D v sa sc).set 68 (.int .u64 x) = vcs D { v with nx := x } sa sc := by
  have hr : (rc v.top).length = 33 := by simp [rc, ok.top.ld]
  have hk := ok.key
  simp [vcs, hr, hk]
theorem VC.next {w0 w : World} {V D : Nat} {fp : Nat → Prop} {v : Vt} {d : Disk.Dk} {sa : Option Addr} {sc : Nat} (h : VC w0 w V D fp v d sa sc) (x : Int) (hx : 0 ≤ x ∧ x ≤ 18446744073709551615) : VC w0 (w.setCell ⟨V, 68, none⟩ (.int .u64 x)) V D fp { v with nx := x } d sa sc := by
  have hb : But V w (w.setCell ⟨V, 68, none⟩ (.int .u64 x)) := (But.refl _ _).setCell 68 _
  have hS := ints_lt h.ints (wid_pos _)
  refine ⟨h.cx.set V 68 _ h.nV h.lo, ?_, ints_same h.ints (fun ad e => hb.block _ (hS ad e) (h.nS ad e).2.1) hb.size, h.lo, h.nV, h.nS, fun k hk => ?_, ⟨h.ok.key, h.ok.kb, h.ok.lo, h.ok.hi, h.ok.top, hx, h.ok.lim⟩, h.fit, h.dig, h.tab⟩
  · have := heap_setCell_same w V 68 _ _ (.int .u64 x) h.row
    rw [this, ← vcs_next D v sa sc h.ok x]
    simp
  · obtain ⟨cs, t, e⟩ := h.cells k hk
    exact ⟨cs, t, (hb.block k (Array.getElem?_eq_some_iff.1 e).1 (fun e2 => h.nV (e2 ▸ hk))).trans e⟩
theorem field_R1 {r : Rf} (h : OkR r) (w : World) : (Instr.field 36 (.agg (ra r)) 1).run Tryz.prog w = .ok (.int .u64 r.s) w := by
  have hagg : (isAgg 34).run Tryz.prog w = .ok false w := by kernel_rfl
  have h32 : (ra r)[32]? = some (.int .u64 r.s) := by simp [ra, rc, h.ld]
  have hpart : (part 34 (ra r) 32).run Tryz.prog w = .ok (.int .u64 r.s) w := by
    simp only [part, Sem.run_bind, hagg, Result.andThen_ok, Bool.false_eq_true, if_false, h32]
    rfl
  unfold Instr.field
  simp only [Sem.run_bind, run_underlying Tryz.underlying36, Result.andThen_ok]
  exact hpart
theorem atField {P : Program} {ops : Array Oper} {Q : Exit → Act → World → Prop} {rest : List Oper} {a : Act} {w : World} (t : TypeId) {x : Operand} {k : Nat} {d : Option Tmp} {ty : TypeId} {p : String} {af : Array Edge} {g : Option (Nat × Bool)} (h : wpList P ops Q ({ dst := d, op := .field t x k, type := ty, pos := p, after := af, guard := g } :: rest) a w) : wpList P ops Q ({ dst := d, op := .field t x k, type := ty, pos := p, after := af, guard := g } :: rest) a w := h
theorem exec_fieldR {o : Oper} {ρ : Operand → Value} {w : World} (x : Operand) (ho : o.op = .field 36 x 1) (r : Rf) (hr : OkR r) (hx : ρ x = .agg (ra r)) : (execOp ρ o).run Tryz.prog w = .ok (.value (.int .u64 r.s)) w := by
  unfold execOp
  simp only [ho, hx, Sem.run_bind, field_R1 hr w]
  rfl
def WrV (w0 w : World) (V D : Nat) (fp : Nat → Prop) (v : Vt) (sa : Option Addr) (sc U bb nb kb base : Nat) (iv : Value) (cnt : Nat) (A : List Int) (fb gn gk : Int → Option Value) (it : Nat) (q : Disk.Dk × Int) (R : Rf) (e : Ending) (w' : World) : Prop :=
  ∃ fp', e = .returned (.int .i64 q.2) ∧ VC w0 w' V D fp' { v with nx := v.nx + 1 } q.1 sa sc ∧ Upd w' U bb nb kb base iv cnt A fb gn (if q.2 = 0 then fput gk (it : Int) (.agg (ra R)) else gk) ∧ Fw (fun k => k = kb ∨ k = V) w w' fp fp'
set_option maxHeartbeats 8000000 in
theorem write_v {w0 w : World} {V D : Nat} {fp : Nat → Prop} {v : Vt} {d : Disk.Dk} {sa : Option Addr} {sc : Nat} (C : VC w0 w V D fp v d sa sc) (U bb nb kb base : Nat) (iv : Value) (cnt : Nat) (A : List Int) (fb gk gn : Int → Option Value)
    (hU : Upd w U bb nb kb base iv cnt A fb gn gk) (l i : Nat) (hl : l ≤ topL v.n) (hi : i < wd v.n l) (r : Rf) (hr : OkR r) (hf : (gk (itm v.n l i : Nat)).getD (.agg (ra zr)) = .agg (ra r)) (hB0 : ∀ k, k = U ∨ k = bb ∨ k = nb ∨ k = kb ∨ iv.ownBlock = some k → ¬ fp k ∧ k ≠ V) (hlo : w0.heap.size ≤ kb) (hne : bb ≠ kb ∧ nb ≠ kb) (hnx : 1 ≤ v.nx ∧ v.nx ≤ 9223372036854775806)
    (B : List Int) (CT0 : ∀ x, Below w.heap.size w x → Calls Tryz.prog 54 #[.pointer (some ⟨V, 0, none⟩), .pointer (some ⟨U, 0, none⟩), .int .i64 (itm v.n l i : Nat)] x fun e x' => ∃ a cap, e = .returned (.slice a 160 cap) ∧ Bytes x' a 160 B ∧ Below x.heap.size x x')
    (hdl : 0 ≤ d.left ∧ d.left ≤ 9223372036854775807) (hop : d.ops.length < 1000000) (hup : d.uw.length < 1000000) :
    Calls Tryz.prog 30 #[.pointer (some ⟨V, 0, none⟩), .pointer (some ⟨U, 0, none⟩), .int .i64 (itm v.n l i : Nat)] w fun e w' =>
      WrV w0 w V D fp v sa sc U bb nb kb base iv cnt A fb gn gk (itm v.n l i) (Xd.wr d (2 * itm v.n l i + ns r) ((Yk v.key).sl (2 * itm v.n l i + ns r) v.nx B)) ⟨(Yk v.key).hs l (2 * itm v.n l i + ns r) ((Yk v.key).sl (2 * itm v.n l i + ns r) v.nx B), 2 * v.nx + (ns r : Int)⟩ e w' := by
  obtain ⟨it, hit⟩ : ∃ it, itm v.n l i = it := ⟨_, rfl⟩
  have hitb := itm_lt v.n (topL v.n) l i hl hi
  have hoff := off_le v.n C.ok.lo C.ok.hi
  have hns := ns_lt r
  obtain ⟨s, hs⟩ : ∃ s, ns r = s := ⟨_, rfl⟩
  have HOS : Box (∀ x, Calls Tryz.prog 50 #[.int .u64 r.s] x fun e w' => e = .returned (.int .i64 (s : Int)) ∧ x = w') := ⟨fun x => by have := otherSide_any r x hr; rw [hs] at this; exact this⟩
  have hfit := C.fit
  rw [hit] at hf CT0 hitb ⊢
  rw [hs] at hns ⊢
  obtain ⟨p, hp⟩ : ∃ p, 2 * it + s = p := ⟨_, rfl⟩
  have HPL : Box (Calls Tryz.prog 51 #[.pointer (some ⟨V, 0, none⟩), .int .i64 (it : Int), .int .i64 (s : Int)] w fun e w' => e = .returned (.int .i64 (p : Int)) ∧ Below w.heap.size w w') := ⟨by have := place_v C l i s hl hi hns; rw [hit, hp] at this; exact this⟩
  rw [hp]
  obtain ⟨SL, hSL⟩ : ∃ SL, (Yk v.key).sl p v.nx B = SL := ⟨_, rfl⟩
  obtain ⟨hsd, hhs⟩ : ∃ hsd, (Yk v.key).hs l p SL = hsd := ⟨_, rfl⟩
  obtain ⟨q, hq⟩ : ∃ q, Xd.wr d p SL = q := ⟨_, rfl⟩
  obtain ⟨st, hst⟩ : ∃ st, 2 * v.nx + (s : Int) = st := ⟨_, rfl⟩
  rw [hSL, hhs, hq, hst]
  have hUl := (Array.getElem?_eq_some_iff.1 hU.un).1
  have hV := C.lt
  have HP : Box (p < 4294967296) := ⟨by omega⟩
  have c1 : w.cell? ⟨U, 3, none⟩ = some (.map (some kb)) := by rw [cell_of_row _ _ _ _ _ _ hU.un]; rfl
  have M1 : Box (Mp w kb gk) := ⟨hU.mkn⟩
  have HLK : Box _ := ⟨hf⟩
  have HR : Box (OkR r) := ⟨hr⟩
  have HST : Box (∀ x, Calls Tryz.prog 52 #[.int .u64 v.nx, .int .i64 (s : Int)] x fun e w' => e = .returned (.tuple #[.int .u64 st, .int .i64 0]) ∧ x = w') := ⟨fun x => by rw [← hst]; exact stamp_ok v.nx s x hnx.1 (by omega) (by omega) (by omega)⟩
  have HNX0 : Box (∀ x, Below w.heap.size w x → x.cell? ⟨V, 68, none⟩ = some (.int .u64 v.nx)) := ⟨fun x hx => (C.below hx).rd.nx⟩
  have HKl : Box ((Tryz.prog.info? 23).map (·.size) = some (v.key.map (Value.int .u8)).length) := ⟨by rw [List.length_map, C.ok.key]; exact infoSum⟩
  have HKy0 : Box (∀ x, Below w.heap.size w x → x.rangeAt V 1 (v.key.map (Value.int .u8))) := ⟨fun x hx => (C.below hx).rd.key⟩
  have hSLb : Byt SL ∧ SL.length = 192 → True := fun _ => trivial
  have CT1 : Box _ := ⟨CT0⟩
  have CS0 : Box (∀ x, Below w.heap.size w x → ∀ ca cc, Bytes x ca 160 B → Calls Tryz.prog 53 #[.agg (u8s v.key), .int .u32 (p : Int), .int .u64 v.nx, .slice ca 160 cc] x fun e x' => ∃ g, e = .returned (.tuple #[.slice (some ⟨g, 0, none⟩) 192 192, .int .i64 0]) ∧ Below x.heap.size x x' ∧ Bytes x' (some ⟨g, 0, none⟩) 192 SL ∧ x.heap.size ≤ g) := ⟨fun x hx ca cc hBx => by
    have hbel := (C.below hx).cx.bel
    refine (Seal.seal_ok v.key B p v.nx ca 160 cc x (C.tab.below hbel) C.ok.key C.ok.kb ⟨by omega, by omega⟩ (by omega) (by omega) (by omega) hBx (.inl rfl)).mono ?_
    rintro e x' ⟨g, rfl, hO⟩
    have hSL2 : Seal.sl v.key p v.nx B = SL := hSL
    rw [hSL2] at hO
    refine ⟨g, rfl, hO.2.2, hO.bytes (by rw [← hSL2]; exact Seal.byt_sl _ _ _ _), ?_⟩
    rcases hO.2.1.2 with ⟨e, _⟩ | ⟨g', cap', cur, e, hge, _⟩
    · cases e
    · cases e
      exact hge⟩
  have HW : Box (∀ x5 g, Below w.heap.size w x5 → Bytes x5 (some ⟨g, 0, none⟩) 192 SL → w.heap.size ≤ g → Calls Tryz.prog 55 #[.pointer (some ⟨D, 0, none⟩), .int .i64 (p : Int), .slice (some ⟨g, 0, none⟩) 192 192] (x5.setCell ⟨V, 68, none⟩ (.int .u64 (v.nx + 1))) fun e x7 => e = .returned (.int .i64 q.2) ∧ ∃ fp', VC w0 x7 V D fp' { v with nx := v.nx + 1 } q.1 sa sc ∧ Fw (fun k => k = kb ∨ k = V) w x7 fp fp' ∧ Bytes x7 (some ⟨g, 0, none⟩) 192 SL ∧ ∀ k, k < w.heap.size → ¬ fp k → k ≠ V → x7.heap[k]? = w.heap[k]?) := ⟨fun x5 g hx hB5 hg => by
    have C5 := C.below hx
    have C6 := C5.next (v.nx + 1) (by omega)
    have hnf : ∀ k, w.heap.size ≤ k → ¬ fp k := fun k hk hf => by have := C.cx.hi k hf; omega
    have hsz : (x5.setCell ⟨V, 68, none⟩ (.int .u64 (v.nx + 1))).heap.size = x5.heap.size := by simp
    have hgx : g < x5.heap.size := by
      obtain ⟨b, o, e, hlt, _⟩ := hB5.2.2 (by omega)
      cases e
      exact hlt
    have hB6 : Bytes (x5.setCell ⟨V, 68, none⟩ (.int .u64 (v.nx + 1))) (some ⟨g, 0, none⟩) 192 SL := by
      refine ⟨hB5.1, hB5.2.1, fun hp => ?_⟩
      obtain ⟨b, o, e, hlt, hc⟩ := hB5.2.2 hp
      cases e
      exact ⟨g, 0, rfl, by rw [hsz]; exact hlt, fun i hi => (World.cell?_of_block (heap_setCell_other x5 ⟨V, 68, none⟩ g _ (by show g ≠ V; omega))).trans (hc i hi)⟩
    refine (dwrite_v C6.cx p _ 192 SL hB6 (fun ad e => by cases e; exact hnf g hg) (by omega) hdl hop hup).mono ?_
    rintro e x7 ⟨he, hn, fp1, h1, h2⟩
    rw [hq] at he hn h1
    obtain ⟨fp', g1, g2, g3⟩ := C6.fol h1 h2 hn
    have hF6 : Fw (fun k => k = kb ∨ k = V) w (x5.setCell ⟨V, 68, none⟩ (.int .u64 (v.nx + 1))) fp fp := (Fw.below _ fp hx).trans ((Fw.of_but ((But.refl V x5).setCell 68 _) fp).wider (fun k _ h => .inr h))
    refine ⟨he, fp', g1, hF6.trans (g2.wider (fun k _ h => h.elim)), ?_, fun k hk hn1 hn2 => ?_⟩
    · refine ⟨hB6.1, hB6.2.1, fun hp => ?_⟩
      obtain ⟨b, o, e, hlt, hc⟩ := hB6.2.2 hp
      cases e
      exact ⟨g, 0, rfl, Nat.lt_of_lt_of_le hlt g2.size, fun i hi => (World.cell?_of_block (g2.block hlt (hnf g hg) id)).trans (hc i hi)⟩
    · exact (g2.block (by rw [hsz]; exact Nat.lt_of_lt_of_le hk hx.size) hn1 id).trans ((heap_setCell_other x5 ⟨V, 68, none⟩ k _ hn2).trans (hx.block k hk))⟩
  have HC : Box (VC w0 w V D fp v d sa sc ∧ Upd w U bb nb kb base iv cnt A fb gn gk ∧ l ≤ topL v.n ∧ i < wd v.n l ∧ (∀ k, k = U ∨ k = bb ∨ k = nb ∨ k = kb ∨ iv.ownBlock = some k → ¬ fp k ∧ k ≠ V) ∧ w0.heap.size ≤ kb ∧ (bb ≠ kb ∧ nb ≠ kb) ∧ U < w.heap.size ∧ U ≠ kb) := ⟨C, hU, hl, hi, hB0, hlo, hne, hUl, fun e => by obtain ⟨es, c, m, h, _⟩ := hU.mkn; rw [← e, hU.un] at h; cases h⟩
  have HIT : Box (itm v.n l i = it) := ⟨hit⟩
  have HHS : Box ((Yk v.key).hs l p SL = hsd ∧ hsd.length = 32) := ⟨hhs, by rw [← hhs]; exact ((Yk v.key).hl l p SL).1⟩
  have hwn : IntKind.u64.wrap (v.nx + 1) = v.nx + 1 := by rw [IntKind.wrap_u64]; omega
  have HBT : Box (Tryz.prog.built 36 [(0, .agg (u8s hsd)), (1, .int .u64 st)] = some (ra ⟨hsd, st⟩)) := ⟨built_Rs hsd st HHS.out.2⟩
  have HND : Box (v.nx + 1 ≤ 18446744073709551615 ∧ 1 ≤ v.nx) := ⟨by omega, hnx.1⟩
  clear C hU hl hi hr hf hB0 hlo hne hnx CT0 hdl hop hup hit hitb hoff hns hs hfit hp hSL hhs hq hst hUl hV hSLb
  go_enter Tryz.func30, Tryz.ntmps30
  go_upto_region 4 with (first
    | (refine atLook 88 ?_; refine wpList_run rfl (.agg (ra r)) _ (exec_look1 (.tmp 17) (.tmp 18) rfl Tryz.underlying88 Tryz.underlying3 (.agg (ra zr)) zeroRef kb gk rfl M1.out it rfl _ HLK.out) ?_)
    | (refine atField 36 ?_; refine wpList_run rfl _ _ (exec_fieldR (.tmp 19) rfl r HR.out rfl) ?_)
    | (go_at_call 50; refine (HOS.out _).mono ?_; rintro e w' ⟨rfl, rfl⟩)
    | (go_at_call 51; refine HPL.out.mono ?_; rintro e x2 ⟨rfl, hb2⟩; have HB2 : Box (Below w.heap.size w x2) := ⟨hb2⟩; have c2 := HNX0.out x2 hb2; clear hb2)
    | (go_at_call 52; refine (HST.out _).mono ?_; rintro e w' ⟨rfl, rfl⟩))
  have HNX : Box (∀ x, Below x2.heap.size x2 x → x.cell? ⟨V, 68, none⟩ = some (.int .u64 v.nx)) := ⟨fun x hx => HNX0.out x (below_to HB2.out hx)⟩
  have HKy : Box (∀ x, Below x2.heap.size x2 x → x.rangeAt V 1 (v.key.map (Value.int .u8))) := ⟨fun x hx => HKy0.out x (below_to HB2.out hx)⟩
  have CT : Box (∀ x, Below x2.heap.size x2 x → Calls Tryz.prog 54 #[.pointer (some ⟨V, 0, none⟩), .pointer (some ⟨U, 0, none⟩), .int .i64 (it : Int)] x fun e x' => ∃ a cap, e = .returned (.slice a 160 cap) ∧ Bytes x' a 160 B ∧ Below x.heap.size x x') := ⟨fun x hx => CT1.out x (below_to HB2.out hx)⟩
  have CS : Box (∀ x, Below x2.heap.size x2 x → ∀ ca cc, Bytes x ca 160 B → Calls Tryz.prog 53 #[.agg (u8s v.key), .int .u32 (p : Int), .int .u64 v.nx, .slice ca 160 cc] x fun e x' => ∃ g, e = .returned (.tuple #[.slice (some ⟨g, 0, none⟩) 192 192, .int .i64 0]) ∧ Below x.heap.size x x' ∧ Bytes x' (some ⟨g, 0, none⟩) 192 SL ∧ x.heap.size ≤ g) := ⟨fun x hx => CS0.out x (below_to HB2.out hx)⟩
  clear HNX0 HKy0 CT1 CS0 c1 c2 M1 HLK HOS HPL HST
  refine Seq.begin_any (by kernel_rfl) (fun wd hd => ?_)
  have HX0 : Box (Below x2.heap.size x2 wd) := ⟨hd⟩
  clear hd
  refine Seq.take_lat (i := 0) (v := ?_) rfl (by kernel_rfl) (by kernel_rfl) (by kernel_rfl) (fun _ _ _ h => h) (by rfl) ?_ ?_
  rotate_left
  · intro w' hLat; change Below _ _ _ at hLat; go_simp <;> with_reducible rfl
  try simp only [Act.put, List.setIfInBounds_toArray, List.set_cons_zero, List.set_cons_succ, List.getElem_toArray, List.getElem_cons_zero]
  refine Seq.take_lat (i := 1) (v := ?_) rfl (by kernel_rfl) (by kernel_rfl) (by kernel_rfl) (fun _ _ _ h => h) (by rfl) ?_ ?_
  rotate_left
  · intro w' hLat; change Below _ _ _ at hLat; go_simp <;> with_reducible rfl
  try simp only [Act.put, List.setIfInBounds_toArray, List.set_cons_zero, List.set_cons_succ, List.getElem_toArray, List.getElem_cons_zero, List.getElem_cons_succ]
  refine Seq.take_lat (i := 2) (v := ?_) rfl (by kernel_rfl) (by kernel_rfl) (by kernel_rfl) (fun _ _ _ h => h) (by rfl) ?_ ?_
  rotate_left
  · intro w' hLat; change Below _ _ _ at hLat; go_simp <;> with_reducible rfl
  try simp only [Act.put, List.setIfInBounds_toArray, List.set_cons_zero, List.set_cons_succ, List.getElem_toArray, List.getElem_cons_zero, List.getElem_cons_succ]
  refine Seq.take_lat (i := 3) (v := .agg (u8s v.key)) rfl (by kernel_rfl) (by kernel_rfl) (by kernel_rfl) (fun _ _ _ h => h) (by rfl) (fun w' hLat => exec_load_mid 23 _ _ rfl Tryz.underlying23 rfl V 1 rfl (v.key.map (Value.int .u8)) HKl.out (HKy.out w' (below_to HX0.out hLat))) ?_
  try simp only [Act.put, List.setIfInBounds_toArray, List.set_cons_zero, List.set_cons_succ, List.getElem_toArray, List.getElem_cons_zero, List.getElem_cons_succ]
  refine Seq.take_lat (i := 4) (v := ?_) rfl (by kernel_rfl) (by kernel_rfl) (by kernel_rfl) (fun _ _ _ h => h) (by rfl) ?_ ?_
  rotate_left
  · intro w' hLat; change Below _ _ _ at hLat; go_simp <;> with_reducible rfl
  try simp only [Act.put, List.setIfInBounds_toArray, List.set_cons_zero, List.set_cons_succ, List.getElem_toArray, List.getElem_cons_zero, List.getElem_cons_succ]
  refine Seq.take_lat (i := 5) (v := .int .u32 (p : Int)) rfl (by kernel_rfl) (by kernel_rfl) (by kernel_rfl) (fun _ _ _ h => h) (by rfl) (fun w' hLat => exec_u32 (.tmp 40) rfl p HP.out rfl) ?_
  try simp only [Act.put, List.setIfInBounds_toArray, List.set_cons_zero, List.set_cons_succ, List.getElem_toArray, List.getElem_cons_zero, List.getElem_cons_succ]
  refine Seq.take_lat (i := 6) (v := ?_) rfl (by kernel_rfl) (by kernel_rfl) (by kernel_rfl) (fun _ _ _ h => h) (by rfl) ?_ ?_
  rotate_left
  · intro w' hLat; change Below _ _ _ at hLat; go_simp <;> with_reducible rfl
  try simp only [Act.put, List.setIfInBounds_toArray, List.set_cons_zero, List.set_cons_succ, List.getElem_toArray, List.getElem_cons_zero, List.getElem_cons_succ]
  refine Seq.take_lat (i := 7) (v := ?_) rfl (by kernel_rfl) (by kernel_rfl) (by kernel_rfl) (fun _ _ _ h => h) (by rfl) ?_ ?_
  rotate_left
  · intro w' hLat; change Below _ _ _ at hLat; go_simp <;> with_reducible rfl
  try simp only [Act.put, List.setIfInBounds_toArray, List.set_cons_zero, List.set_cons_succ, List.getElem_toArray, List.getElem_cons_zero, List.getElem_cons_succ]
  refine Seq.take_lat (i := 8) (v := ?_) rfl (by kernel_rfl) (by kernel_rfl) (by kernel_rfl) (fun _ _ _ h => h) (by rfl) ?_ ?_
  rotate_left
  · intro w' hLat; change Below _ _ _ at hLat; go_simp <;> with_reducible rfl
  try simp only [Act.put, List.setIfInBounds_toArray, List.set_cons_zero, List.set_cons_succ, List.getElem_toArray, List.getElem_cons_zero, List.getElem_cons_succ]
  refine Seq.take_lat (i := 9) (v := .int .u64 v.nx) rfl (by kernel_rfl) (by kernel_rfl) (by kernel_rfl) (fun _ _ _ h => h) (by rfl) (fun w' hLat => Disk.exec_load1 34 _ _ rfl Tryz.underlying34 rfl _ rfl _ (HNX.out w' (below_to HX0.out hLat))) ?_
  try simp only [Act.put, List.setIfInBounds_toArray, List.set_cons_zero, List.set_cons_succ, List.getElem_toArray, List.getElem_cons_zero, List.getElem_cons_succ]
  refine Seq.take_lat (i := 10) (v := ?_) rfl (by kernel_rfl) (by kernel_rfl) (by kernel_rfl) (fun _ _ _ h => h) (by rfl) ?_ ?_
  rotate_left
  · intro w' hLat; change Below _ _ _ at hLat; go_simp <;> with_reducible rfl
  try simp only [Act.put, List.setIfInBounds_toArray, List.set_cons_zero, List.set_cons_succ, List.getElem_toArray, List.getElem_cons_zero, List.getElem_cons_succ]
  refine Seq.take_lat (i := 11) (v := ?_) rfl (by kernel_rfl) (by kernel_rfl) (by kernel_rfl) (fun _ _ _ h => h) (by rfl) ?_ ?_
  rotate_left
  · intro w' hLat; change Below _ _ _ at hLat; go_simp <;> with_reducible rfl
  try simp only [Act.put, List.setIfInBounds_toArray, List.set_cons_zero, List.set_cons_succ, List.getElem_toArray, List.getElem_cons_zero, List.getElem_cons_succ]
  refine Seq.take_lat (i := 12) (v := ?_) rfl (by kernel_rfl) (by kernel_rfl) (by kernel_rfl) (fun _ _ _ h => h) (by rfl) ?_ ?_
  rotate_left
  · intro w' hLat; change Below _ _ _ at hLat; go_simp <;> with_reducible rfl
  try simp only [Act.put, List.setIfInBounds_toArray, List.set_cons_zero, List.set_cons_succ, List.getElem_toArray, List.getElem_cons_zero, List.getElem_cons_succ]
  refine Seq.only_lat (i := 13) rfl (by kernel_rfl) (fun KK hK => ?_)
  rw [if_pos (by rfl)]
  go_simp
  refine Calls.mono (CT.out wd HX0.out) ?_
  rintro e x4 ⟨ca, cc, rfl, hB4, hb⟩
  have HX4 : Box (Below x2.heap.size x2 x4 ∧ Bytes x4 ca 160 B) := ⟨below_to HX0.out hb, hB4⟩
  refine hK.out _ _ hb ?_
  clear hb hB4
  clear hK KK
  try simp only [Act.put, List.setIfInBounds_toArray, List.set_cons_zero, List.set_cons_succ, List.getElem_toArray, List.getElem_cons_zero, List.getElem_cons_succ]
  refine Seq.only_lat (i := 14) rfl (by kernel_rfl) (fun KK hK => ?_)
  rw [if_pos (by rfl)]
  go_simp
  refine Calls.mono (CS.out x4 HX4.out.1 ca cc HX4.out.2) ?_
  rintro e x5 ⟨g, rfl, hb, hB5, hg5⟩
  have HX5 : Box (Below x2.heap.size x2 x5 ∧ Bytes x5 (some ⟨g, 0, none⟩) 192 SL ∧ x2.heap.size ≤ g) := ⟨below_to HX4.out.1 hb, hB5, by have := HX4.out.1.size; omega⟩
  refine hK.out _ _ hb ?_
  clear hb hB5 hg5
  clear hK KK
  try simp only [Act.put, List.setIfInBounds_toArray, List.set_cons_zero, List.set_cons_succ, List.getElem_toArray, List.getElem_cons_zero, List.getElem_cons_succ]
  refine Seq.take_lat (i := 15) (v := ?_) rfl (by kernel_rfl) (by kernel_rfl) (by kernel_rfl) (fun _ _ _ h => h) (by rfl) ?_ ?_
  rotate_left
  · intro w' hLat; change Below _ _ _ at hLat; go_simp <;> with_reducible rfl
  try simp only [Act.put, List.setIfInBounds_toArray, List.set_cons_zero, List.set_cons_succ, List.getElem_toArray, List.getElem_cons_zero, List.getElem_cons_succ]
  refine Seq.take_lat (i := 16) (v := ?_) rfl (by kernel_rfl) (by kernel_rfl) (by kernel_rfl) (fun _ _ _ h => h) (by rfl) ?_ ?_
  rotate_left
  · intro w' hLat; change Below _ _ _ at hLat; go_simp <;> with_reducible rfl
  try simp only [Act.put, List.setIfInBounds_toArray, List.set_cons_zero, List.set_cons_succ, List.getElem_toArray, List.getElem_cons_zero, List.getElem_cons_succ]
  refine Seq.take_lat (i := 17) (v := ?_) rfl (by kernel_rfl) (by kernel_rfl) (by kernel_rfl) (fun _ _ _ h => h) (by rfl) ?_ ?_
  rotate_left
  · intro w' hLat; change Below _ _ _ at hLat; go_simp <;> with_reducible rfl
  try simp only [Act.put, List.setIfInBounds_toArray, List.set_cons_zero, List.set_cons_succ, List.getElem_toArray, List.getElem_cons_zero, List.getElem_cons_succ]
  refine Seq.take_lat (i := 18) (v := ?_) rfl (by kernel_rfl) (by kernel_rfl) (by kernel_rfl) (fun _ _ _ h => h) (by rfl) ?_ ?_
  rotate_left
  · intro w' hLat; change Below _ _ _ at hLat; go_simp <;> with_reducible rfl
  try simp only [Act.put, List.setIfInBounds_toArray, List.set_cons_zero, List.set_cons_succ, List.getElem_toArray, List.getElem_cons_zero, List.getElem_cons_succ]
  refine Seq.take_lat (i := 19) (v := ?_) rfl (by kernel_rfl) (by kernel_rfl) (by kernel_rfl) (fun _ _ _ h => h) (by rfl) ?_ ?_
  rotate_left
  · intro w' hLat; change Below _ _ _ at hLat; go_simp <;> with_reducible rfl
  try simp only [Act.put, List.setIfInBounds_toArray, List.set_cons_zero, List.set_cons_succ, List.getElem_toArray, List.getElem_cons_zero, List.getElem_cons_succ]
  refine wpAnyH_done (by kernel_rfl) ?_ _
  have HX : Box (Below w.heap.size w x5 ∧ Bytes x5 (some ⟨g, 0, none⟩) 192 SL ∧ w.heap.size ≤ g) := ⟨below_to HB2.out HX5.out.1, HX5.out.2.1, by have := HB2.out.size; have := HX5.out.2.2; omega⟩
  have C5 := HC.out.1.below HX.out.1
  have c5 : x5.cell? ⟨V, 68, none⟩ = some (.int .u64 v.nx) := C5.rd.nx
  have f5 : x5.frozen? ⟨V, 68, none⟩ = false := frozen_of_row _ _ _ _ _ C5.row
  have c6 : (x5.setCell ⟨V, 68, none⟩ (.int .u64 (v.nx + 1))).cell? ⟨V, 0, none⟩ = some (.pointer (some ⟨D, 0, none⟩)) := (C5.next (v.nx + 1) (by have := HND.out; omega)).rd.disk
  clear C5 CS CT HKy HNX HX4 HX0
  go_upto_region 7 with (first
    | (go_at_call 55; refine (HW.out x5 g HX.out.1 HX.out.2.1 HX.out.2.2).mono ?_; rintro e x7 ⟨rfl, fp', g1, g2, g3, g4⟩; have H7 : Box (VC w0 x7 V D fp' { v with nx := v.nx + 1 } q.1 sa sc ∧ Fw (fun k => k = kb ∨ k = V) w x7 fp fp' ∧ Bytes x7 (some ⟨g, 0, none⟩) 192 SL ∧ ∀ k, k < w.heap.size → ¬ fp k → k ≠ V → x7.heap[k]? = w.heap[k]?) := ⟨g1, g2, g3, g4⟩; clear g1 g2 g3 g4))
  obtain ⟨qd, qe⟩ := q
  have hup7 : Upd x7 U bb nb kb base iv cnt A fb gn gk := by
    obtain ⟨hC, hU, hl, hi, hB0, hlo, hne, hUl, hUk⟩ := HC.out
    have hk : ∀ k, (k = U ∨ k = bb ∨ k = nb ∨ k = kb ∨ iv.ownBlock = some k) → k < w.heap.size → x7.heap[k]? = w.heap[k]? := fun k h1 h2 => H7.out.2.2.2 k h2 (hB0 k h1).1 (hB0 k h1).2
    exact hU.same (hk U (.inl rfl) hUl) (hk bb (.inr (.inl rfl)) hU.mb.lt) (hk nb (.inr (.inr (.inl rfl))) hU.mn.lt) (hk kb (.inr (.inr (.inr (.inl rfl)))) hU.mkn.lt) (fun j hj => hk j (.inr (.inr (.inr (.inr hj)))) (hU.own.lt j hj).2)
  have HU7 : Box _ := ⟨hup7⟩
  by_cases hqe : qe = 0
  · subst hqe
    have HUC : Box (∀ x, Below x7.heap.size x7 x → x.cell? ⟨U, 3, none⟩ = some (.map (some kb))) := ⟨fun x hx => by rw [cell_of_row _ _ _ _ _ _ ((hx.block U (Array.getElem?_eq_some_iff.1 hup7.un).1).trans hup7.un)]; rfl⟩
    have HMK : Box (∀ x, Below x7.heap.size x7 x → Mp x kb gk) := ⟨fun x hx => hup7.mkn.same (hx.block kb hup7.mkn.lt)⟩
    have HUS : Box (∀ x y : World, x.cell? ⟨U, 3, none⟩ = some (.map (some kb)) → But kb x y → y.cell? ⟨U, 3, none⟩ = some (.map (some kb))) := ⟨fun x y hx hb => Disk.but_cell hb hx HC.out.2.2.2.2.2.2.2.2⟩
    have CL : Box (∀ x, Below x7.heap.size x7 x → Calls Tryz.prog 57 #[.pointer (some ⟨V, 0, none⟩), .int .i64 (it : Int)] x fun e w' => e = .returned (.int .i64 (l : Int)) ∧ Below x.heap.size x w') := ⟨fun x hx => by rw [← HIT.out]; exact level_v (H7.out.1.below hx) l i HC.out.2.2.1 HC.out.2.2.2.1⟩
    have CD : Box (∀ x, Below x7.heap.size x7 x → Calls Tryz.prog 56 #[.int .i64 (l : Int), .int .u32 (p : Int), .slice (some ⟨g, 0, none⟩) 192 192] x fun e w' => e = .returned (.agg (u8s hsd)) ∧ Below x.heap.size x w') := ⟨fun x hx => by
      have h1 := HHS.out.1
      have e : dsha (dg (l : Int) (p : Int) SL) = hsd := h1
      rw [← e]
      have := HP.out
      exact digest_any l p _ 192 192 SL x (H7.out.1.dig.below (H7.out.1.below hx).cx.bel) (by omega) (H7.out.2.2.1.below hx) (by omega) (by omega) (by omega)⟩
    have HFO : Box (∀ x9 y, Below x7.heap.size x7 x9 → Mp y kb (fput gk (it : Int) (.agg (ra ⟨hsd, st⟩))) → But kb x9 y → WrV w0 w V D fp v sa sc U bb nb kb base iv cnt A fb gn gk it (qd, 0) ⟨hsd, st⟩ (.returned (.int .i64 0)) y) := ⟨fun x9 y hx hM hb => by
      obtain ⟨hC, hU, hl, hi, hB0, hlo, hne, hUl, hUk⟩ := HC.out
      have C9 := H7.out.1.below hx
      have hnm := C9.nomap (HMK.out x9 hx)
      have hsz := hx.size
      have hk : ∀ k, k < x7.heap.size → k ≠ kb → y.heap[k]? = x7.heap[k]? := fun k h1 h2 => (hb.block k (by omega) h2).trans (hx.block k h1)
      have hio : ∀ j, iv.ownBlock = some j → j ≠ kb := fun j hj e => by
        rcases hup7.own.2 with ⟨e1, _⟩ | ⟨g, cap, cur, e1, _, hgg, _⟩
        · rw [e1] at hj; cases hj
        · rw [e1] at hj
          cases hj
          obtain ⟨es, c, m, h, _⟩ := hup7.mkn
          rw [← e, hgg] at h
          cases h
      refine ⟨fp', rfl, C9.set kb hb hnm.1 hnm.2.1 hnm.2.2 (by omega), ⟨(hk U (Array.getElem?_eq_some_iff.1 hup7.un).1 hUk).trans hup7.un, ownsB hup7.own (fun j hj => hk j (hup7.own.lt j hj).2 (hio j hj)), hup7.mb.same (hk bb hup7.mb.lt hne.1), hup7.mn.same (hk nb hup7.mn.lt hne.2), by rw [if_pos rfl]; exact hM⟩, ?_⟩
      exact (H7.out.2.1.trans (Fw.below _ fp' hx)).trans ((Fw.of_but hb fp').wider (fun k _ h => .inl h))⟩
    clear hup7
    go_upto_region 9 with fail
    refine Disk.begin_keep (S := fun x => x.cell? ⟨U, 3, none⟩ = some (.map (some kb))) (by kernel_rfl) (fun wd hwd => ?_)
    have hbd : Below x7.heap.size x7 wd := by rw [hwd]; exact (Below.refl _ _).drew
    clear hwd
    have hS := HUC.out wd hbd
    refine take_s (i := 0) (v := ?_) rfl (by kernel_rfl) (by kernel_rfl) (by kernel_rfl) (fun _ _ _ h => h) (by rfl) ?_ hS ?_
    rotate_left
    · intro w' hLat; clear hLat; go_simp <;> with_reducible rfl
    try simp only [Act.put, List.setIfInBounds_toArray, List.set_cons_zero, List.set_cons_succ, List.getElem_toArray, List.getElem_cons_zero]
    refine take_s (i := 1) (v := ?_) rfl (by kernel_rfl) (by kernel_rfl) (by kernel_rfl) (fun _ _ _ h => h) (by rfl) ?_ hS ?_
    rotate_left
    · intro w' hLat; clear hLat; go_simp <;> with_reducible rfl
    try simp only [Act.put, List.setIfInBounds_toArray, List.set_cons_zero, List.set_cons_succ, List.getElem_toArray, List.getElem_cons_zero, List.getElem_cons_succ]
    refine take_s (i := 2) (v := ?_) rfl (by kernel_rfl) (by kernel_rfl) (by kernel_rfl) (fun _ _ _ h => h) (by rfl) ?_ hS ?_
    rotate_left
    · intro w' hLat; clear hLat; go_simp <;> with_reducible rfl
    try simp only [Act.put, List.setIfInBounds_toArray, List.set_cons_zero, List.set_cons_succ, List.getElem_toArray, List.getElem_cons_zero, List.getElem_cons_succ]
    refine take_s (i := 3) (v := .map (some kb)) rfl (by kernel_rfl) (by kernel_rfl) (by kernel_rfl) (fun _ _ _ h => h) (by rfl) (fun w' hLat => Disk.exec_load1 88 _ _ rfl Tryz.underlying88 rfl _ rfl _ hLat) hS ?_
    try simp only [Act.put, List.setIfInBounds_toArray, List.set_cons_zero, List.set_cons_succ, List.getElem_toArray, List.getElem_cons_zero, List.getElem_cons_succ]
    refine take_s (i := 4) (v := ?_) rfl (by kernel_rfl) (by kernel_rfl) (by kernel_rfl) (fun _ _ _ h => h) (by rfl) ?_ hS ?_
    rotate_left
    · intro w' hLat; clear hLat; go_simp <;> with_reducible rfl
    try simp only [Act.put, List.setIfInBounds_toArray, List.set_cons_zero, List.set_cons_succ, List.getElem_toArray, List.getElem_cons_zero, List.getElem_cons_succ]
    refine take_s (i := 5) (v := ?_) rfl (by kernel_rfl) (by kernel_rfl) (by kernel_rfl) (fun _ _ _ h => h) (by rfl) ?_ hS ?_
    rotate_left
    · intro w' hLat; clear hLat; go_simp <;> with_reducible rfl
    try simp only [Act.put, List.setIfInBounds_toArray, List.set_cons_zero, List.set_cons_succ, List.getElem_toArray, List.getElem_cons_zero, List.getElem_cons_succ]
    refine take_s (i := 6) (v := ?_) rfl (by kernel_rfl) (by kernel_rfl) (by kernel_rfl) (fun _ _ _ h => h) (by rfl) ?_ hS ?_
    rotate_left
    · intro w' hLat; clear hLat; go_simp <;> with_reducible rfl
    try simp only [Act.put, List.setIfInBounds_toArray, List.set_cons_zero, List.set_cons_succ, List.getElem_toArray, List.getElem_cons_zero, List.getElem_cons_succ]
    refine take_s (i := 8) (v := ?_) rfl (by kernel_rfl) (by kernel_rfl) (by kernel_rfl) (fun _ _ _ h => h) (by rfl) ?_ hS ?_
    rotate_left
    · intro w' hLat; clear hLat; go_simp <;> with_reducible rfl
    try simp only [Act.put, List.setIfInBounds_toArray, List.set_cons_zero, List.set_cons_succ, List.getElem_toArray, List.getElem_cons_zero, List.getElem_cons_succ]
    refine take_s (i := 9) (v := .int .u32 (p : Int)) rfl (by kernel_rfl) (by kernel_rfl) (by kernel_rfl) (fun _ _ _ h => h) (by rfl) (fun w' hLat => exec_u32 (.tmp 78) rfl p HP.out rfl) hS ?_
    try simp only [Act.put, List.setIfInBounds_toArray, List.set_cons_zero, List.set_cons_succ, List.getElem_toArray, List.getElem_cons_zero, List.getElem_cons_succ]
    refine take_s (i := 10) (v := ?_) rfl (by kernel_rfl) (by kernel_rfl) (by kernel_rfl) (fun _ _ _ h => h) (by rfl) ?_ hS ?_
    rotate_left
    · intro w' hLat; clear hLat; go_simp <;> with_reducible rfl
    try simp only [Act.put, List.setIfInBounds_toArray, List.set_cons_zero, List.set_cons_succ, List.getElem_toArray, List.getElem_cons_zero, List.getElem_cons_succ]
    refine take_s (i := 12) (v := ?_) rfl (by kernel_rfl) (by kernel_rfl) (by kernel_rfl) (fun _ _ _ h => h) (by rfl) ?_ hS ?_
    rotate_left
    · intro w' hLat; clear hLat; go_simp <;> with_reducible rfl
    try simp only [Act.put, List.setIfInBounds_toArray, List.set_cons_zero, List.set_cons_succ, List.getElem_toArray, List.getElem_cons_zero, List.getElem_cons_succ]
    refine Disk.one_keep (i := 7) (by kernel_rfl) ?_
    refine Disk.keep_step rfl (by rfl) ?_
    go_simp
    refine Calls.mono (CL.out wd hbd) ?_
    rintro e x8 ⟨rfl, hb8⟩
    have hb78 : Below x7.heap.size x7 x8 := below_to hbd hb8
    refine ⟨HUC.out x8 hb78, ?_⟩
    try simp only [Act.put, List.setIfInBounds_toArray, List.set_cons_zero, List.set_cons_succ, List.getElem_toArray, List.getElem_cons_zero, List.getElem_cons_succ]
    refine Disk.one_keep (i := 11) (by kernel_rfl) ?_
    refine Disk.keep_step rfl (by rfl) ?_
    go_simp
    refine Calls.mono (CD.out x8 hb78) ?_
    rintro e x9 ⟨rfl, hb9⟩
    have hb79 : Below x7.heap.size x7 x9 := below_to hb78 hb9
    have hS9 := HUC.out x9 hb79
    refine ⟨hS9, ?_⟩
    try simp only [Act.put, List.setIfInBounds_toArray, List.set_cons_zero, List.set_cons_succ, List.getElem_toArray, List.getElem_cons_zero, List.getElem_cons_succ]
    refine take_s (i := 13) (v := .agg (ra ⟨hsd, st⟩)) rfl (by kernel_rfl) (by kernel_rfl) (by kernel_rfl) (fun _ _ _ h => h) (by rfl) (fun w' hLat => exec_built 36 [(0, .tmp 81), (1, .tmp 82)] rfl [(0, .agg (u8s hsd)), (1, .int .u64 st)] rfl _ HBT.out) hS9 ?_
    try simp only [Act.put, List.setIfInBounds_toArray, List.set_cons_zero, List.set_cons_succ, List.getElem_toArray, List.getElem_cons_zero, List.getElem_cons_succ]
    refine Disk.one_keep (i := 14) (by kernel_rfl) ?_
    refine Disk.keep_step rfl (by rfl) ?_
    refine wp_put (.tmp 73) (.tmp 74) (.tmp 83) (.inl rfl) Tryz.underlying88 Tryz.underlying3 kb _ rfl (HMK.out x9 hb79) _ rfl _ rfl (fun y m3 b3 z3 => ?_)
    refine ⟨HUS.out x9 y hS9 b3, ?_⟩
    try simp only [Act.put, List.getElem_toArray, List.getElem_cons_zero, List.getElem_cons_succ]
    refine wpAnyH_done (by kernel_rfl) ?_ _
    have HFY : Box _ := ⟨HFO.out x9 y hb79 m3 b3⟩
    clear m3 b3 z3 hS9 hb79 hb78 hb8 hb9 hbd hS
    go_wp2
    go_ret
    exact HFY.out
  · have hqe2 : (qe == 0) = false := by simpa using hqe
    have HFE : Box (WrV w0 w V D fp v sa sc U bb nb kb base iv cnt A fb gn gk it (qd, qe) ⟨hsd, st⟩ (.returned (.int .i64 qe)) x7) := ⟨⟨fp', rfl, H7.out.1, by rw [if_neg hqe]; exact hup7, H7.out.2.1⟩⟩
    clear hup7
    go_wp2
    go_ret
    exact HFE.out
end Go.Proofs.YthbbijaikcmaeaaGreatDoor
namespace Go.Proofs.YthbbijaikcmaeaaGreatDoor
set_option maxRecDepth 100000
set_option linter.unusedVariables false
open Go.RowKit Go.Shelf Plain Go.Proofs.YthbbijaikcmaeaaGreatDoor.Shap.Plain
attribute [local go_sem] Oper.semAt_some
def wnb (v : Vt) (m : Nat) : Bool := decide (v.lim < v.nx + (m : Int))
set_option maxHeartbeats 1000000 in
theorem worn_v {w : World} {V D : Nat} {v : Vt} {sa : Option Addr} {sc : Nat} (hR : Vrd w V D v sa sc) (ok : v.Ok) (m : Nat) (hm : m ≤ 1000000) : Calls Tryz.prog 29 #[.pointer (some ⟨V, 0, none⟩), .int .u64 (m : Int)] w fun e w' => e = .returned (.bool (wnb v m)) ∧ Below w.heap.size w w' := by
  have c1 := hR.lim
  have c2 := hR.nx
  have h1 := ok.lim
  have h2 := ok.nx
  by_cases hc : v.lim < (m : Int)
  · have hd : decide (v.lim < (m : Int)) = true := by simpa using hc
    have e : wnb v m = true := by simp only [wnb, decide_eq_true_eq]; omega
    rw [e]
    clear e hR
    go_enter Tryz.func29, Tryz.ntmps29
    go_wp2
    go_quiet (fail)
    go_wp2
    go_ret
    exact ⟨rfl, below_drewN (Below.refl _ _) nq⟩
  · have hd : decide (v.lim < (m : Int)) = false := by simpa using hc
    have hw : IntKind.u64.wrap (v.lim - (m : Int)) = v.lim - (m : Int) := by rw [IntKind.wrap_u64]; omega
    have e : wnb v m = decide (v.lim - (m : Int) < v.nx) := by
      unfold wnb
      by_cases h : v.lim < v.nx + (m : Int)
      · rw [decide_eq_true h, decide_eq_true (by omega)]
      · rw [decide_eq_false h, decide_eq_false (by omega)]
    rw [e]
    clear e hR
    go_enter Tryz.func29, Tryz.ntmps29
    go_wp2
    go_quiet (fail)
    go_wp2
    go_ret
    exact ⟨rfl, below_drewN (Below.refl _ _) nq⟩
theorem results_R2 {fn : Func} {t u : Tmp} (h : fn.results = #[.cell t 36, .tmp u]) (tmps : Array Value) (w : World) (b : Nat) (r : Rf) (hr : OkR r) (ht : tmps.getD t undef = .pointer (some ⟨b, 0, none⟩)) (hg : w.heap[b]? = some (.cells (ra r) 36 (0, 0))) :
    (results fn tmps).run Tryz.prog w = .ok (.tuple #[.agg (ra r), tmps.getD u undef]) w := by
  have hl := run_loadVar_row (P := Tryz.prog) w b _ 36 _ _ _ hg Tryz.underlying36 rfl (by rw [size_ra hr]; exact infoR)
  rw [results_cell_tmp h, ht]
  simp [asAddr, hl]
def cB (n : Nat) (bk : Nat → Option (List Int)) (G : Nat → List Rf) (F : Nat → Rf) : Nat × Nat → List Int
  | (0, i) => (bk i).getD []
  | (l + 1, i) => Plain.nb (cnN n l i F (G (itm n (l + 1) i)) (fr (chn n l i)))
abbrev Wst := Disk.Dk × Int × Int × (Nat → Rf)
def wP (n : Nat) (F : Nat → Rf) (x : Nat × Nat) : Nat := 2 * itm n x.1 x.2 + ns (F (itm n x.1 x.2))
noncomputable def wS (K : List Int) (n : Nat) (bk : Nat → Option (List Int)) (G : Nat → List Rf) (s : Wst) (x : Nat × Nat) : List Int := (Yk K).sl (wP n s.2.2.2 x) s.2.1 (cB n bk G s.2.2.2 x)
noncomputable def wQ (K : List Int) (n : Nat) (bk : Nat → Option (List Int)) (G : Nat → List Rf) (s : Wst) (x : Nat × Nat) : Disk.Dk × Int := Xd.wr s.1 (wP n s.2.2.2 x) (wS K n bk G s x)
noncomputable def wR (K : List Int) (n : Nat) (bk : Nat → Option (List Int)) (G : Nat → List Rf) (s : Wst) (x : Nat × Nat) : Rf := ⟨(Yk K).hs x.1 (wP n s.2.2.2 x) (wS K n bk G s x), 2 * s.2.1 + (ns (s.2.2.2 (itm n x.1 x.2)) : Int)⟩
noncomputable def wrSt (K : List Int) (n : Nat) (bk : Nat → Option (List Int)) (G : Nat → List Rf) (s : Wst) (x : Nat × Nat) : Wst :=
  if s.2.2.1 ≠ 0 then s else
  if (wQ K n bk G s x).2 ≠ 0 then ((wQ K n bk G s x).1, s.2.1 + 1, (wQ K n bk G s x).2, s.2.2.2)
  else ((wQ K n bk G s x).1, s.2.1 + 1, 0, Fput s.2.2.2 (itm n x.1 x.2) (wR K n bk G s x))
noncomputable def wrL (K : List Int) (n : Nat) (bk : Nat → Option (List Int)) (G : Nat → List Rf) (s : Wst) (l : List (Nat × Nat)) : Wst := l.foldl (wrSt K n bk G) s
theorem wrL_snoc (K : List Int) (n : Nat) (bk : Nat → Option (List Int)) (G : Nat → List Rf) (s : Wst) (l : List (Nat × Nat)) (x : Nat × Nat) : wrL K n bk G s (l ++ [x]) = wrSt K n bk G (wrL K n bk G s l) x := by simp [wrL]
theorem wrL_app (K : List Int) (n : Nat) (bk : Nat → Option (List Int)) (G : Nat → List Rf) (s : Wst) (a b : List (Nat × Nat)) : wrL K n bk G s (a ++ b) = wrL K n bk G (wrL K n bk G s a) b := by simp [wrL]
theorem wrL_err (K : List Int) (n : Nat) (bk : Nat → Option (List Int)) (G : Nat → List Rf) : ∀ (l : List (Nat × Nat)) (s : Wst), s.2.2.1 ≠ 0 → wrL K n bk G s l = s
  | [], s, _ => rfl
  | x :: l, s, h => by
    have e : wrSt K n bk G s x = s := by unfold wrSt; rw [if_pos h]
    show wrL K n bk G (wrSt K n bk G s x) l = s
    rw [e]
    exact wrL_err K n bk G l s h
def Dlm (d : Disk.Dk) (k : Nat) : Prop := (0 ≤ d.left ∧ d.left ≤ 9223372036854775807) ∧ d.ops.length < 910000 + k ∧ d.uw.length < 910000 + k
theorem dlm_wr {d : Disk.Dk} {k : Nat} (h : Dlm d k) (p : Nat) (S : List Int) : Dlm (Xd.wr d p S).1 (k + 1) := by
  obtain ⟨h1, h2, h3⟩ := h
  simp only [Xd]
  split
  · exact ⟨h1, by show d.ops.length < _; omega, by show d.uw.length < _; omega⟩
  · split
    · exact ⟨h1, by show d.ops.length < _; omega, by show d.uw.length < _; omega⟩
    · rename_i h4 h5
      refine ⟨?_, by simp [Disk.wrOk]; omega, by simp [Disk.wrOk]; omega⟩
      simp only [Disk.wrOk]
      by_cases hs : d.st = true
      · rw [if_pos hs]
        have : d.left ≠ 0 := fun e => h5 ⟨hs, e⟩
        omega
      · rw [if_neg hs]; exact h1
def UpV (w0 w : World) (V D : Nat) (fp : Nat → Prop) (v : Vt) (sa : Option Addr) (sc : Nat) (q : Disk.Dk × Int × Int × Rf) (e : Ending) (w' : World) : Prop :=
  ∃ fp', e = .returned (.tuple #[.agg (ra q.2.2.2), .int .i64 q.2.2.1]) ∧ VC w0 w' V D fp' { v with nx := q.2.1 } q.1 sa sc ∧ Fw (fun k => k = V) w w' fp fp'
noncomputable def gSt (v : Vt) (its : List (Nat × Nat)) (d : Disk.Dk) : Gst := gtM v.key v.n (d, 0, F0 v.n v.top, fun _ => zn) (dnL v.n its (topL v.n))
noncomputable def wSt (v : Vt) (its : List (Nat × Nat)) (bk : Nat → Option (List Int)) (d : Disk.Dk) : Wst := wrL v.key v.n bk (gSt v its d).2.2.2 ((gSt v its d).1, v.nx, 0, (gSt v its d).2.2.1) its
noncomputable def updC (v : Vt) (its : List (Nat × Nat)) (bk : Nat → Option (List Int)) (d : Disk.Dk) : Disk.Dk × Int × Int × Rf :=
  if (gSt v its d).2.1 ≠ 0 then ((gSt v its d).1, v.nx, (gSt v its d).2.1, zr) else
  if wnb v its.length = true then ((gSt v its d).1, v.nx, 15, zr) else
  if (wSt v its bk d).2.2.1 ≠ 0 then ((wSt v its bk d).1, (wSt v its bk d).2.1, (wSt v its bk d).2.2.1, zr) else
  ((wSt v its bk d).1, (wSt v its bk d).2.1, 0, (wSt v its bk d).2.2.2 (itm v.n (topL v.n) 0))
end Go.Proofs.YthbbijaikcmaeaaGreatDoor
