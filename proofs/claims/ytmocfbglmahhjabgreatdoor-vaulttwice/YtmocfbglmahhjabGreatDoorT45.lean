/-
  Images and records in memory, told plainly: read, and in rows of a call's own. Of the program only its types are named.
-/
import Derived.Test.YtmocfbglmahhjabGreatDoorT44
namespace Go.Proofs.YtmocfbglmahhjabGreatDoor.Rec.Plain
set_option maxRecDepth 100000
end Go.Proofs.YtmocfbglmahhjabGreatDoor.Rec.Plain
namespace Go.Proofs.YtmocfbglmahhjabGreatDoor.Rec
set_option maxRecDepth 100000
set_option linter.unusedVariables false
set_option maxRecDepth 100000
open Go.RowKit Go.Proofs.YtmocfbglmahhjabGreatDoor.Plain Go.Proofs.YtmocfbglmahhjabGreatDoor.Rec.Plain
/-- An image: its number, and where its bytes lie. -/
structure Im where
  blk : Int
  ba : Option Addr
  bl : Nat
  bc : Nat
  bs : List Int
def imc (m : Im) : List Value := [.int .u64 m.blk, .slice m.ba m.bl m.bc]
/-- The reference's image, and its record. -/
def ic (x : Int × List Int) : List Value := [.int .u64 x.1, .string (strOfNums x.2)]
/-- What is told of an image, and of a record. -/
def pl (m : Im) : Int × List Int := (m.blk, m.bs)
def N64 (x : Int) : Prop := 0 ≤ x ∧ x ≤ 18446744073709551615
/-- Things in memory, one behind the other, each of sz cells. -/
def Tb {α : Type} (w : World) (a : Option Addr) (sz : Nat) (f : α → List Value) (M : List α) : Prop :=
  0 < M.length → ∃ b o, a = some ⟨b, o, none⟩ ∧ b < w.heap.size ∧ ∀ i (h : i < M.length), w.rangeAt b (o + i * sz) (f M[i])
theorem range_below {w w' : World} {b o B : Nat} {cs : List Value} (hb : Below B w w') (h : w.rangeAt b o cs) (hlt : b < B) : w'.rangeAt b o cs := fun j v hv => (hb.cell hlt).trans (h j v hv)
theorem Tb.below {α : Type} {w w' : World} {a : Option Addr} {sz : Nat} {f : α → List Value} {M : List α} (h : Tb w a sz f M) (hb : Below w.heap.size w w') : Tb w' a sz f M := fun hp => by
  obtain ⟨b, o, e, hlt, hr⟩ := h hp
  exact ⟨b, o, e, Nat.lt_of_lt_of_le hlt hb.size, fun i hi => range_below hb (hr i hi) hlt⟩
theorem flat_get {α : Type} (f : α → List Value) (sz : Nat) (hf : ∀ x, (f x).length = sz) (M : List α) (i : Nat) (hi : i < M.length) (j : Nat) (hj : j < sz) : (M.map f).flatten[i * sz + j]? = (f M[i])[j]? := by
  have := flat_at (M.map f) sz (fun x hx => by obtain ⟨y, _, rfl⟩ := List.mem_map.1 hx; exact hf y) i (by simpa using hi) j hj
  rw [Nat.mul_comm i sz, this]
  simp
theorem own_tb {α : Type} {w : World} {B n c : Nat} {e : TypeId} {sz : Nat} {a : Option Addr} {f : α → List Value} {M : List α} (hf : ∀ x, (f x).length = sz) (h : w.ownsRow B e sz (.slice a n c) n (M.map f).flatten) (hn : M.length = n) : Tb w a sz f M := fun hp => by
  have h' := h
  rcases h.2 with ⟨_, h0⟩ | ⟨g, cap, cur, h3, _, hg, _⟩
  · omega
  · simp only [Value.slice.injEq, true_and] at h3
    obtain ⟨rfl, rfl⟩ := h3
    refine ⟨g, 0, rfl, (Array.getElem?_eq_some_iff.1 hg).1, fun i hi j v hv => ?_⟩
    have hj : j < sz := by
      have := (List.getElem?_eq_some_iff.1 hv).1
      rw [hf] at this
      exact this
    have h4 := h'.cells (g := g) rfl (i * sz + j) v (by rw [flat_get f sz hf M i hi j hj]; exact hv)
    rw [Addr.add_lit] at h4
    rw [show 0 + i * sz + j = 0 + (i * sz + j) by omega]
    exact h4
theorem own_to {w w' : World} {base n : Nat} {e : TypeId} {sz : Nat} {v : Value} {xs : List Value} (h : w.ownsRow base e sz v n xs) (hb : Below w.heap.size w w') : w'.ownsRow base e sz v n xs := own_same h (fun k hk => hb.block k (h.lt k hk).2)
theorem own_low2 {w : World} {base base' n : Nat} {e : TypeId} {sz : Nat} {v : Value} {xs : List Value} (h : w.ownsRow base e sz v n xs) (hb : base' ≤ base) : w.ownsRow base' e sz v n xs := by
  refine ⟨h.1, ?_⟩
  rcases h.2 with hn | ⟨g, cap, cur, rfl, hbb, rest⟩
  · exact .inl hn
  · exact .inr ⟨g, cap, cur, rfl, Nat.le_trans hb hbb, rest⟩
/-- The block of a row of one's own. -/
theorem own_blk {w : World} {base n : Nat} {e : TypeId} {sz : Nat} {v : Value} {xs : List Value} (h : w.ownsRow base e sz v n xs) : ∀ k, v.ownBlock = some k → base ≤ k ∧ ∃ cur, w.heap[k]? = some (.cells cur e (0, 0)) := by
  intro k hk
  rcases h.2 with ⟨rfl, _⟩ | ⟨g, cap, cur, rfl, hb, hg, _⟩
  · cases hk
  · cases hk
    exact ⟨hb, cur, hg⟩
/-- Rows of other types lie in other blocks. -/
theorem own_ne {w : World} {base n base' n' : Nat} {e e' : TypeId} {sz sz' : Nat} {v v' : Value} {xs xs' : List Value} (h : w.ownsRow base e sz v n xs) (h' : w.ownsRow base' e' sz' v' n' xs') (hne : e ≠ e') : ∀ k, v.ownBlock = some k → v'.ownBlock ≠ some k := fun k hk hk' => by
  obtain ⟨_, c1, h1⟩ := own_blk h k hk
  obtain ⟨_, c2, h2⟩ := own_blk h' k hk'
  rw [h1] at h2
  simp only [Option.some.injEq, Obj.cells.injEq] at h2
  exact hne h2.2.1
/-- Images in memory, to be read. -/
structure Imgs (w : World) (a : Option Addr) (M : List Im) : Prop where
  tb : Tb w a 2 imc M
  byt : ∀ m ∈ M, Bytes w m.ba m.bl m.bs ∧ N64 m.blk ∧ m.bl ≤ m.bc ∧ m.bc ≤ maxLen
theorem Imgs.below {w w' : World} {a : Option Addr} {M : List Im} (h : Imgs w a M) (hb : Below w.heap.size w w') : Imgs w' a M :=
  ⟨h.tb.below hb, fun m hm => ⟨(h.byt m hm).1.below hb, (h.byt m hm).2⟩⟩
/-- An image whose bytes are in new memory. -/
structure OIm (w : World) (B : Nat) (m : Im) : Prop where
  own : w.ownsRow B 5 1 (.slice m.ba m.bl m.bc) m.bl (m.bs.map (Value.int .u8))
  byt : Byt m.bs
  num : N64 m.blk
theorem OIm.to {w w' : World} {B : Nat} {m : Im} (h : OIm w B m) (hb : Below w.heap.size w w') : OIm w' B m := ⟨own_to h.own hb, h.byt, h.num⟩
theorem OIm.low {w : World} {B B' : Nat} {m : Im} (h : OIm w B m) (hb : B' ≤ B) : OIm w B' m := ⟨own_low2 h.own hb, h.byt, h.num⟩
theorem OIm.byi {w : World} {B : Nat} {m : Im} (h : OIm w B m) : Bytes w m.ba m.bl m.bs ∧ N64 m.blk ∧ m.bl ≤ m.bc ∧ m.bc ≤ maxLen :=
  ⟨own_bytes h.own h.byt, h.num, own_cap h.own⟩
/-- It stays where a row of another type turns. -/
theorem OIm.grown {w w' : World} {B B' n : Nat} {e : TypeId} {sz : Nat} {v : Value} {xs : List Value} {m : Im} (h : OIm w B m) (hv : w.ownsRow B' e sz v n xs) (he : e ≠ 5) (hg : w.grownBy w' v.ownBlock) : OIm w' B m :=
  ⟨own_same h.own (fun k hk => hg.block k (h.own.lt k hk).2 (fun e' => own_ne hv h.own he k e'.symm hk)), h.byt, h.num⟩
/-- Images in a row of one's own, their bytes too. -/
structure OImgs (w : World) (B : Nat) (v : Value) (M : List Im) : Prop where
  row : w.ownsRow B 39 2 v M.length (M.map imc).flatten
  byt : ∀ m ∈ M, OIm w B m
theorem OImgs.to {w w' : World} {B : Nat} {v : Value} {M : List Im} (h : OImgs w B v M) (hb : Below w.heap.size w w') : OImgs w' B v M := ⟨own_to h.row hb, fun m hm => (h.byt m hm).to hb⟩
theorem OImgs.imgs {w : World} {B c : Nat} {a : Option Addr} {M : List Im} (h : OImgs w B (.slice a M.length c) M) : Imgs w a M := ⟨own_tb (fun _ => rfl) h.row rfl, fun m hm => (h.byt m hm).byi⟩
theorem zeroIm : (Tryz.prog.info? 39).map (·.zero) = some (some (.agg #[.int .u64 0, .slice none 0 0])) := by kernel_rfl
theorem infoIm : (Tryz.prog.info? 39).map (·.size) = some 2 := by kernel_rfl
theorem infIm : (Tryz.prog.info? 39).map (fun i => (i.zero, i.size, i.bytes)) = some (some (.agg #[.int .u64 0, .slice none 0 0]), 2, 32) := by kernel_rfl
theorem exec_idxT {op : Oper} {ρ : Operand → Value} {w' : World} (t e : TypeId) (hu : Tryz.prog.underlying t = some (.slice e)) (sz : Nat) (hi : (Tryz.prog.info? e).map (·.size) = some sz) (x y : Operand) (ho : op.op = .indexAddr t x y) (b o len cap j : Nat) (hx : ρ x = .slice (some ⟨b, o, none⟩) len cap) (hy : ρ y = .int .i64 (j : Int)) (hj : j < len) :
    (execOp ρ op).run Tryz.prog w' = .ok (.value (.pointer (some ⟨b, o + j * sz, none⟩))) w' := by
  have hc : (0 : Int) ≤ (j : Int) ∧ (j : Int) < (len : Int) := by omega
  have hs : (sizeOf e).run Tryz.prog w' = .ok sz w' := by
    cases hq : Tryz.prog.info? e with
    | none => simp [hq] at hi
    | some i =>
      have h1 : i.size = sz := by simpa [hq] using hi
      simp [sizeOf, typeInfo, hq, h1]
  unfold execOp
  simp [ho, hx, hy, Instr.indexAt, asIntOf, Sem.run_bind, run_underlying hu, hc, Addr.add_mid, hs]
  intro hh; omega
end Go.Proofs.YtmocfbglmahhjabGreatDoor.Rec
