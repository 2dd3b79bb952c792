/-
  A cache of blocks in memory, told plainly: its row of blocks, each with its bytes, and how often it is held; and the worlds in which nothing but caches and their rows has turned. Of the program only its types are named.
-/
import Derived.Test.YthjfobcfdpogeaaR0
namespace Go.Proofs.Ythjfobcfdpogeaa
set_option linter.unusedVariables false
open Go.RowKit Plain

/-- A block that is kept: its number, where its bytes lie, the bytes, how often it is held. -/
structure Kp where
  b : Int
  a : Option Addr
  l : Nat
  c : Nat
  bs : List Int
  h : Int
def kc (x : Kp) : List Value := [.int .u64 x.b, .slice x.a x.l x.c, .int .u64 x.h]
def kcs (L : List Kp) : List Value := (L.map kc).flatten
def U64 (x : Int) : Prop := 0 ≤ x ∧ x ≤ 18446744073709551615
theorem length_kc (x : Kp) : (kc x).length = 3 := rfl
theorem one_kc (x : Kp) : ∀ u ∈ kc x, u.oneCell' = true := by
  intro u hu
  simp only [kc, List.mem_cons, List.not_mem_nil, or_false] at hu
  rcases hu with rfl | rfl | rfl <;> rfl
theorem kcs_all (L : List Kp) : ∀ x ∈ L.map kc, x.length = 3 := by
  intro x hx
  obtain ⟨y, hy, rfl⟩ := List.mem_map.1 hx
  rfl
theorem length_kcs (L : List Kp) : (kcs L).length = L.length * 3 := by
  rw [kcs, flat_length _ 3 (kcs_all L), List.length_map]
theorem kcs_app (A B : List Kp) : kcs (A ++ B) = kcs A ++ kcs B := by simp [kcs]
theorem kcs_one (x : Kp) : kcs [x] = kc x := by simp [kcs]
theorem kcs_cons (x : Kp) (L : List Kp) : kcs (x :: L) = kc x ++ kcs L := by simp [kcs]
theorem one_kcs (L : List Kp) : ∀ u ∈ kcs L, u.oneCell' = true := by
  intro u hu
  simp only [kcs, List.mem_flatten, List.mem_map] at hu
  obtain ⟨l, ⟨x, _, rfl⟩, h⟩ := hu
  exact one_kc x u h
theorem kcs_at (L : List Kp) (k : Nat) (hk : k < L.length) (j : Nat) (hj : j < 3) : (kcs L)[3 * k + j]? = (kc L[k])[j]? := by
  rw [kcs, flat_at _ 3 (kcs_all L) k (by simpa using hk) j hj]
  simp
theorem kcs_take (L : List Kp) (k : Nat) (hk : k ≤ L.length) : (kcs L).take (k * 3) = kcs (L.take k) := by
  have h : kcs L = kcs (L.take k) ++ kcs (L.drop k) := by rw [← kcs_app, List.take_append_drop]
  rw [h, List.take_left' (by rw [length_kcs, List.length_take, Nat.min_eq_left hk])]
theorem kcs_drop (L : List Kp) (k : Nat) (hk : k ≤ L.length) : (kcs L).drop (k * 3) = kcs (L.drop k) := by
  have h : kcs L = kcs (L.take k) ++ kcs (L.drop k) := by rw [← kcs_app, List.take_append_drop]
  rw [h, List.drop_left' (by rw [length_kcs, List.length_take, Nat.min_eq_left hk])]

/-- A block of a cache, or of a row of a cache. -/
def CK (w : World) (k : Nat) : Prop := ∃ cs t fr, w.heap[k]? = some (.cells cs t fr) ∧ (t = 57 ∨ t = 60)
theorem CK.same {w w' : World} {k : Nat} (h : w'.heap[k]? = w.heap[k]?) : CK w' k ↔ CK w k := by unfold CK; rw [h]
/-- Nothing has turned but caches and their rows, from B on. -/
structure Fr (B : Nat) (w w' : World) : Prop where
  os : w'.os = w.os
  tape : w'.tape = w.tape
  output : w'.output = w.output
  size : w.heap.size ≤ w'.heap.size
  block : ∀ k, k < w.heap.size → k < B ∨ ¬ CK w k → w'.heap[k]? = w.heap[k]?
theorem Fr.refl (B : Nat) (w : World) : Fr B w w := ⟨rfl, rfl, rfl, Nat.le_refl _, fun _ _ _ => rfl⟩
theorem Fr.trans {B : Nat} {a b c : World} (h : Fr B a b) (k : Fr B b c) : Fr B a c :=
  ⟨k.os.trans h.os, k.tape.trans h.tape, k.output.trans h.output, Nat.le_trans h.size k.size, fun i hi hn => by
    have e := h.block i hi hn
    rw [k.block i (Nat.lt_of_lt_of_le hi h.size) (hn.imp id (fun hn => by rw [CK.same e]; exact hn)), e]⟩
theorem Fr.of_below {B : Nat} {w w' : World} (h : Below w.heap.size w w') : Fr B w w' := ⟨h.os, h.tape, h.output, h.size, fun k hk _ => h.block k hk⟩
theorem Fr.below {B : Nat} {w w' : World} (h : Fr B w w') (hB : B ≤ w.heap.size) : Below B w w' := ⟨h.os, h.tape, h.output, h.size, fun k hk => h.block k (by omega) (.inl hk)⟩
theorem Fr.cell {B : Nat} {w w' : World} (h : Fr B w w') {a : Addr} {v : Value} (hc : w.cell? a = some v) (hn : a.block < B ∨ ¬ CK w a.block) : w'.cell? a = some v :=
  (World.cell?_of_block (h.block a.block (World.block_lt_of_cell? w a hc) hn)).trans hc
theorem not_CK {w : World} {k : Nat} {cs : Array Value} {t : TypeId} {fr : Nat × Nat} (h : w.heap[k]? = some (.cells cs t fr)) (h1 : t ≠ 57) (h2 : t ≠ 60) : ¬ CK w k := by
  rintro ⟨cs', t', fr', he, ht⟩
  rw [h] at he
  simp only [Option.some.injEq, Obj.cells.injEq] at he
  rcases ht with ht | ht
  · exact h1 (he.2.1.trans ht)
  · exact h2 (he.2.1.trans ht)
theorem Fr.row {B : Nat} {w w' : World} (h : Fr B w w') {k : Nat} {cs : Array Value} {t : TypeId} {fr : Nat × Nat} (hk : w.heap[k]? = some (.cells cs t fr)) (h1 : t ≠ 57) (h2 : t ≠ 60) : w'.heap[k]? = some (.cells cs t fr) :=
  (h.block k (Array.getElem?_eq_some_iff.1 hk).1 (.inr (not_CK hk h1 h2))).trans hk

/-- A row of blocks in memory. -/
def Row (w : World) (rv : Value) (L : List Kp) : Prop := w.ownsRow 0 60 3 rv L.length (kcs L)
/-- A block's bytes lie in memory of their own. -/
def Kb (w : World) (x : Kp) : Prop := x.l = 160 ∧ Byt x.bs ∧ w.ownsRow 0 5 1 (.slice x.a 160 x.c) 160 (x.bs.map (Value.int .u8))
/-- A cache of at most n blocks lies in memory, its head in block C, its row where rv says. -/
structure Ca (w : World) (B C : Nat) (n : Int) (rv : Value) (L : List Kp) : Prop where
  hd : w.heap[C]? = some (.cells #[.int .i64 n, rv] 57 (0, 0))
  row : Row w rv L
  u : ∀ x ∈ L, U64 x.b ∧ U64 x.h
  hC : B ≤ C
  hR : ∀ k, rv.ownBlock = some k → B ≤ k
  len : L.length < 1000000
/-- A cache, its blocks' bytes besides. -/
def Cc (w : World) (B C : Nat) (n : Int) (L : List Kp) : Prop := (∃ rv, Ca w B C n rv L) ∧ ∀ x ∈ L, Kb w x
theorem own_type {w : World} {e : TypeId} {sz n k : Nat} {v : Value} {xs : List Value} (h : w.ownsRow 0 e sz v n xs) (hk : v.ownBlock = some k) : ∃ cs, w.heap[k]? = some (.cells cs e (0, 0)) := by
  rcases h.2 with ⟨rfl, _⟩ | ⟨g, cap, cur, rfl, _, hg, _⟩
  · simp [Value.ownBlock] at hk
  · simp only [Value.ownBlock, Option.some.injEq] at hk
    subst hk
    exact ⟨cur, hg⟩
theorem Kb.fr {B : Nat} {w w' : World} {x : Kp} (h : Kb w x) (hf : Fr B w w') : Kb w' x := by
  refine ⟨h.1, h.2.1, own_same h.2.2 (fun k hk => ?_)⟩
  obtain ⟨cs, hc⟩ := own_type h.2.2 hk
  rw [hf.row hc (by decide) (by decide), hc]
theorem Ca.ck {w : World} {B C : Nat} {n : Int} {rv : Value} {L : List Kp} (h : Ca w B C n rv L) : CK w C := ⟨_, _, _, h.hd, .inl rfl⟩
theorem Ca.ckr {w : World} {B C : Nat} {n : Int} {rv : Value} {L : List Kp} (h : Ca w B C n rv L) {k : Nat} (hk : rv.ownBlock = some k) : CK w k := by
  obtain ⟨cs, hc⟩ := own_type h.row hk
  exact ⟨_, _, _, hc, .inr rfl⟩
theorem Ca.ne {w : World} {B C : Nat} {n : Int} {rv : Value} {L : List Kp} (h : Ca w B C n rv L) : rv.ownBlock ≠ some C := by
  intro hk
  obtain ⟨cs, hc⟩ := own_type h.row hk
  have := h.hd
  rw [hc] at this
  simp at this
theorem Ca.lt {w : World} {B C : Nat} {n : Int} {rv : Value} {L : List Kp} (h : Ca w B C n rv L) : C < w.heap.size := (Array.getElem?_eq_some_iff.1 h.hd).1
theorem Ca.below {w w' : World} {B C : Nat} {n : Int} {rv : Value} {L : List Kp} (h : Ca w B C n rv L) (hb : Below w.heap.size w w') : Ca w' B C n rv L :=
  ⟨(hb.block C h.lt).trans h.hd, own_same h.row (fun k hk => hb.block k (h.row.lt k hk).2), h.u, h.hC, h.hR, h.len⟩
theorem Cc.below {w w' : World} {B C : Nat} {n : Int} {L : List Kp} (h : Cc w B C n L) (hb : Below w.heap.size w w') : Cc w' B C n L := by
  obtain ⟨⟨rv, h1⟩, h2⟩ := h
  exact ⟨⟨rv, h1.below hb⟩, fun x hx => (h2 x hx).fr (Fr.of_below (B := B) hb)⟩
theorem Ca.cells {w : World} {B C : Nat} {n : Int} {rv : Value} {L : List Kp} (h : Ca w B C n rv L) : w.cell? ⟨C, 0, none⟩ = some (.int .i64 n) ∧ w.cell? ⟨C, 1, none⟩ = some rv ∧ ∀ k, w.frozen? ⟨C, k, none⟩ = false := by
  refine ⟨by rw [cell_of_row _ _ _ _ _ _ h.hd]; rfl, by rw [cell_of_row _ _ _ _ _ _ h.hd]; rfl, fun k => ?_⟩
  simp [World.frozen?, h.hd]
/-- What lies in a row. -/
def Ways (w : World) (a : Option Addr) (L : List Kp) : Prop := 0 < L.length → ∃ g, a = some ⟨g, 0, none⟩ ∧ g < w.heap.size ∧ ∀ k (h : k < L.length), w.rangeAt g (k * 3) (kc L[k])
theorem Row.ways {w : World} {a : Option Addr} {n cap : Nat} {L : List Kp} (h : Row w (.slice a n cap) L) : Ways w a L := by
  intro h0
  rcases h.2 with ⟨h1, h2⟩ | ⟨g, cap', cur, h1, hb, hg, _⟩
  · omega
  · simp only [Value.slice.injEq] at h1
    obtain ⟨rfl, rfl, rfl⟩ := h1
    refine ⟨g, rfl, (Array.getElem?_eq_some_iff.1 hg).1, fun k hk j v hv => ?_⟩
    have hj : j < 3 := (List.getElem?_eq_some_iff.1 hv).1
    have := h.cells (g := g) rfl (3 * k + j) v (by rw [kcs_at L k hk j hj]; exact hv)
    rw [Addr.add_lit, Nat.zero_add, Nat.mul_comm] at this
    exact this
theorem Ways.below {w w' : World} {a : Option Addr} {L : List Kp} (h : Ways w a L) (hb : Below w.heap.size w w') : Ways w' a L := fun h0 => by
  obtain ⟨g, e, h1, h2⟩ := h h0
  exact ⟨g, e, Nat.lt_of_lt_of_le h1 hb.size, fun k hk j v hv => (hb.cell (p := ⟨g, k * 3 + j, none⟩) h1).trans (h2 k hk j v hv)⟩
theorem Row.form {w : World} {rv : Value} {L : List Kp} (h : Row w rv L) : ∃ a cap, rv = .slice a L.length cap ∧ L.length ≤ cap ∧ cap ≤ maxLen := by
  rcases h.2 with ⟨rfl, h2⟩ | ⟨g, cap, cur, rfl, _, _, h1, h2, _⟩
  · exact ⟨none, 0, by rw [h2], by omega, Nat.zero_le _⟩
  · exact ⟨_, _, rfl, h1, h2⟩
/-- The head is set anew, where the row is one that lies behind. -/
theorem Ca.turn {w w1 : World} {B C : Nat} {n : Int} {rv rv' : Value} {L L' : List Kp} (h : Ca w B C n rv L) (hw : w1.heap[C]? = w.heap[C]?) (hr : Row w1 rv' L') (hu : ∀ x ∈ L', U64 x.b ∧ U64 x.h) (hR : ∀ k, rv'.ownBlock = some k → B ≤ k) (hl : L'.length < 1000000) : Ca (w1.setCell ⟨C, 1, none⟩ rv') B C n rv' L' := by
  have hd := heap_setCell_same w1 C 1 _ _ rv' (hw.trans h.hd)
  refine ⟨hd, own_same hr (fun k hk => heap_setCell_other w1 ⟨C, 1, none⟩ k _ (fun e => ?_)), hu, h.hC, hR, hl⟩
  obtain ⟨cs, hc⟩ := own_type hr hk
  rw [show k = C from e, hw, h.hd] at hc
  simp at hc
theorem fr_set {B C k : Nat} {w w1 : World} (h : Fr B w w1) (hC : B ≤ C) (hk : CK w C) (v : Value) : Fr B w (w1.setCell ⟨C, k, none⟩ v) :=
  ⟨h.os, h.tape, h.output, by simpa using h.size, fun j hj hn => by
    rw [heap_setCell_other w1 ⟨C, k, none⟩ j _ (fun e => ?_)]
    · exact h.block j hj hn
    · have e' : j = C := e
      subst e'
      rcases hn with hn | hn
      · omega
      · exact hn hk⟩
theorem fr_grown {B : Nat} {w w1 w2 : World} {row : Option Nat} (h : Fr B w w1) (hg : w1.grownBy w2 row) (hr : ∀ k, row = some k → B ≤ k ∧ (k < w.heap.size → CK w k)) : Fr B w w2 :=
  ⟨hg.os.trans h.os, hg.tape.trans h.tape, hg.output.trans h.output, Nat.le_trans h.size hg.size, fun j hj hn => by
    rw [hg.block j (Nat.lt_of_lt_of_le hj h.size) (fun e => ?_), h.block j hj hn]
    obtain ⟨h1, h2⟩ := hr j e.symm
    rcases hn with hn | hn
    · omega
    · exact hn (h2 hj)⟩
theorem infoK : (Try.prog.info? 60).map (fun i => (i.zero, i.size, i.bytes)) = some (some (.agg #[.int .u64 0, .slice none 0 0, .int .u64 0]), 3, 40) := by kernel_rfl
theorem sizeK : (Try.prog.info? 60).map (·.size) = some 3 := by kernel_rfl
theorem zeroK : (Try.prog.info? 60).map (·.zero) = some (some (.agg #[.int .u64 0, .slice none 0 0, .int .u64 0])) := by kernel_rfl

/-- The first block of a number. -/
def Fs (L : List Kp) (b : Int) (i : Nat) : Prop := ∃ h : i < L.length, L[i].b = b ∧ ∀ j (hj : j < L.length), j < i → L[j].b ≠ b
def No (L : List Kp) (b : Int) : Prop := ∀ x ∈ L, x.b ≠ b
theorem fs_or (L : List Kp) (b : Int) : No L b ∨ ∃ i, Fs L b i := by
  induction L with
  | nil => exact .inl (fun x hx => by simp at hx)
  | cons y L ih =>
    by_cases hy : y.b = b
    · exact .inr ⟨0, by simp, hy, fun j _ hj => by omega⟩
    · rcases ih with h | ⟨i, hi, h1, h2⟩
      · refine .inl (fun x hx => ?_)
        rcases List.mem_cons.1 hx with rfl | hx
        · exact hy
        · exact h x hx
      · refine .inr ⟨i + 1, by simpa using hi, by simpa using h1, fun j hj hlt => ?_⟩
        cases j with
        | zero => simpa using hy
        | succ j => simpa using h2 j (by simpa using hj) (by omega)
theorem No.not {L : List Kp} {b : Int} {i : Nat} (h : No L b) (k : Fs L b i) : False := by
  obtain ⟨hi, h1, _⟩ := k
  exact h _ (List.getElem_mem hi) h1
theorem Fs.only {L : List Kp} {b : Int} {i j : Nat} (h : Fs L b i) (k : Fs L b j) : i = j := by
  obtain ⟨hi, h1, h2⟩ := h
  obtain ⟨hj, k1, k2⟩ := k
  rcases Nat.lt_trichotomy i j with hl | hl | hl
  · exact absurd h1 (k2 i hi hl)
  · exact hl
  · exact absurd k1 (h2 j hj hl)
/-- The last block that isn't held. -/
def Lf (L : List Kp) (i : Nat) : Prop := ∃ h : i < L.length, L[i].h = 0 ∧ ∀ j (hj : j < L.length), i < j → L[j].h ≠ 0
def Ah (L : List Kp) : Prop := ∀ x ∈ L, x.h ≠ 0
theorem lf_or (L : List Kp) : Ah L ∨ ∃ i, Lf L i := by
  induction L with
  | nil => exact .inl (fun x hx => by simp at hx)
  | cons y L ih =>
    rcases ih with h | ⟨i, hi, h1, h2⟩
    · by_cases hy : y.h = 0
      · refine .inr ⟨0, by simp, hy, fun j hj hlt => ?_⟩
        obtain ⟨k, rfl⟩ : ∃ k, j = k + 1 := ⟨j - 1, by omega⟩
        simpa using h _ (List.getElem_mem (by simpa using hj))
      · refine .inl (fun x hx => ?_)
        rcases List.mem_cons.1 hx with rfl | hx
        · exact hy
        · exact h x hx
    · refine .inr ⟨i + 1, by simpa using hi, by simpa using h1, fun j hj hlt => ?_⟩
      obtain ⟨k, rfl⟩ : ∃ k, j = k + 1 := ⟨j - 1, by omega⟩
      simpa using h2 k (by simpa using hj) (by omega)
/-- Room is made: of a row so much is left, and there is room, or none. -/
inductive Rm (n : Int) : List Kp → List Kp → Bool → Prop where
  | fit (L : List Kp) (h : (L.length : Int) < n) : Rm n L L true
  | stuck (L : List Kp) (h : n ≤ (L.length : Int)) (ha : Ah L) : Rm n L L false
  | step (L L' : List Kp) (b : Bool) (i : Nat) (h : n ≤ (L.length : Int)) (hi : Lf L i) (k : Rm n (L.eraseIdx i) L' b) : Rm n L L' b
theorem rm_ex (n : Int) (m : Nat) (L : List Kp) (hm : L.length = m) : ∃ L' b, Rm n L L' b := by
  induction m generalizing L with
  | zero =>
    by_cases h : (L.length : Int) < n
    · exact ⟨L, true, .fit L h⟩
    · obtain rfl : L = [] := List.eq_nil_of_length_eq_zero hm
      exact ⟨[], false, .stuck [] (by omega) (fun x hx => by simp at hx)⟩
  | succ m ih =>
    by_cases h : (L.length : Int) < n
    · exact ⟨L, true, .fit L h⟩
    · rcases lf_or L with ha | ⟨i, hi⟩
      · exact ⟨L, false, .stuck L (by omega) ha⟩
      · have hl : i < L.length := hi.1
        obtain ⟨L', b, k⟩ := ih (L.eraseIdx i) (by rw [List.length_eraseIdx, if_pos hl, hm]; omega)
        exact ⟨L', b, .step L L' b i (by omega) hi k⟩
theorem Rm.sub {n : Int} {L L' : List Kp} {b : Bool} (h : Rm n L L' b) : L'.Sublist L := by
  induction h with
  | fit L h => exact List.Sublist.refl _
  | stuck L h ha => exact List.Sublist.refl _
  | step L L' b i h hi k ih => exact ih.trans (List.eraseIdx_sublist L i)
theorem Rm.fits {n : Int} {L L' : List Kp} (h : Rm n L L' true) : (L'.length : Int) < n := by
  generalize hb : true = b at h
  induction h with
  | fit L h => exact h
  | stuck L h ha => cases hb
  | step L L' b i h hi k ih => exact ih hb
/-- A block is put first. -/
def fro (L : List Kp) (i : Nat) (h : i < L.length) : List Kp := L[i] :: L.eraseIdx i
theorem mem_fro {L : List Kp} {i : Nat} {h : i < L.length} {x : Kp} (hx : x ∈ fro L i h) : x ∈ L := by
  rcases List.mem_cons.1 hx with rfl | hx
  · exact List.getElem_mem h
  · exact List.mem_of_mem_eraseIdx hx
theorem length_fro {L : List Kp} {i : Nat} {h : i < L.length} : (fro L i h).length = L.length := by
  simp only [fro, List.length_cons, List.length_eraseIdx, if_pos h]
  omega
end Go.Proofs.Ythjfobcfdpogeaa
