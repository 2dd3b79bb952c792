/-
  The rounds of SHA-256 as plain reckoning; nothing of the program is said here.
-/
import Derived.Test.YtlbapcpcabieaaaDoorHP2
import Derived.Deep.MidRow
namespace Go.Proofs.YtlbapcpcabieaaaDoor.Dig.Plain
set_option linter.unusedVariables false
open Go.RowKit

def hh : List Int := [1779033703, 3144134277, 1013904242, 2773480762, 1359893119, 2600822924, 528734635, 1541459225]
def kk : List Int := [1116352408, 1899447441, 3049323471, 3921009573, 961987163, 1508970993, 2453635748, 2870763221, 3624381080, 310598401, 607225278, 1426881987, 1925078388, 2162078206, 2614888103, 3248222580, 3835390401, 4022224774, 264347078, 604807628, 770255983, 1249150122, 1555081692, 1996064986, 2554220882, 2821834349, 2952996808, 3210313671, 3336571891, 3584528711, 113926993, 338241895, 666307205, 773529912, 1294757372, 1396182291, 1695183700, 1986661051, 2177026350, 2456956037, 2730485921, 2820302411, 3259730800, 3345764771, 3516065817, 3600352804, 4094571909, 275423344, 430227734, 506948616, 659060556, 883997877, 958139571, 1322822218, 1537002063, 1747873779, 1955562222, 2024104815, 2227730452, 2361852424, 2428436474, 2756734187, 3204031479, 3329325298]
structure St where
  a : Int
  b : Int
  c : Int
  d : Int
  e : Int
  f : Int
  g : Int
  h : Int
def St.list (s : St) : List Int := [s.a, s.b, s.c, s.d, s.e, s.f, s.g, s.h]
def St.of (L : List Int) : St := ⟨L.getD 0 0, L.getD 1 0, L.getD 2 0, L.getD 3 0, L.getD 4 0, L.getD 5 0, L.getD 6 0, L.getD 7 0⟩
def St.OK (s : St) : Prop := W32 s.a ∧ W32 s.b ∧ W32 s.c ∧ W32 s.d ∧ W32 s.e ∧ W32 s.f ∧ W32 s.g ∧ W32 s.h
def ep1 (e : Int) : Int := bits .xor .u32 (bits .xor .u32 (rotr e 6) (rotr e 11)) (rotr e 25)
def ep0 (a : Int) : Int := bits .xor .u32 (bits .xor .u32 (rotr a 2) (rotr a 13)) (rotr a 22)
def cho (e f g : Int) : Int := bits .xor .u32 (bits .and .u32 e f) (bits .and .u32 (bits .xor .u32 (if IntKind.u32.signed = true then -1 else IntKind.u32.max) e) g)
def maj (a b c : Int) : Int := bits .xor .u32 (bits .xor .u32 (bits .and .u32 a b) (bits .and .u32 a c)) (bits .and .u32 b c)
def one (s : St) (k w : Int) : Int := (s.h + ep1 s.e + cho s.e s.f s.g + k + w) % 4294967296
def two (s : St) : Int := (ep0 s.a + maj s.a s.b s.c) % 4294967296
def stepSt (s : St) (k w : Int) : St := ⟨(one s k w + two s) % 4294967296, s.a, s.b, s.c, (s.d + one s k w) % 4294967296, s.e, s.f, s.g⟩
def rnd (W : List Int) (s : St) : Nat → St
  | 0 => s
  | k + 1 => stepSt (rnd W s k) (kk.getD k 0) (W.getD k 0)
theorem St.OK.step {s : St} (h : s.OK) (k w : Int) : (stepSt s k w).OK := by
  obtain ⟨ha, hb, hc, hd, he, hf, hg, hh⟩ := h
  exact ⟨W32.wrap _, ha, hb, hc, W32.wrap _, he, hf, hg⟩
theorem rnd_ok (W : List Int) (s : St) (h : s.OK) (k : Nat) : (rnd W s k).OK := by
  induction k with
  | zero => exact h
  | succ k ih => exact ih.step _ _
theorem St.of_ok {L : List Int} (h : Wrd L) : (St.of L).OK := ⟨h 0, h 1, h 2, h 3, h 4, h 5, h 6, h 7⟩
theorem wrd_kk : Wrd kk := by
  intro i
  by_cases h : i < 64
  · have key : ∀ j : Fin 64, 0 ≤ kk.getD j.val 0 ∧ kk.getD j.val 0 < 4294967296 := by decide +kernel
    exact key ⟨i, h⟩
  · have e : kk.getD i 0 = 0 := by
      simp only [List.getD]
      rw [List.getElem?_eq_none (by show 64 ≤ i; omega)]; rfl
    rw [e]; simp [W32]

/-- Words added one by one. -/
def mz (H X : List Int) : Nat → List Int
  | 0 => H
  | k + 1 => (mz H X k).set k ((H.getD k 0 + X.getD k 0) % 4294967296)
def mix (H W : List Int) : List Int := mz H (rnd W (St.of H) 64).list 8
theorem length_mz (H X : List Int) (k : Nat) : (mz H X k).length = H.length := by
  induction k with
  | zero => rfl
  | succ k ih => simp [mz, ih]
theorem length_mix (H W : List Int) : (mix H W).length = H.length := length_mz _ _ _
theorem mz_far (H X : List Int) (k i : Nat) (h : k ≤ i) : (mz H X k).getD i 0 = H.getD i 0 := by
  induction k with
  | zero => rfl
  | succ k ih =>
    rw [mz]
    simp only [List.getD]
    rw [List.getElem?_set_ne (by omega)]
    exact ih (by omega)
theorem wrd_set (L : List Int) (k : Nat) (v : Int) (h : Wrd L) (hv : W32 v) : Wrd (L.set k v) := by
  intro i
  simp only [List.getD]
  rw [List.getElem?_set]
  split
  · split
    · exact hv
    · simp [W32]
  · exact h i
theorem wrd_mz (H X : List Int) (k : Nat) (h : Wrd H) : Wrd (mz H X k) := by
  induction k with
  | zero => exact h
  | succ k ih => exact wrd_set _ _ _ ih (W32.wrap _)
theorem wrd_mix (H W : List Int) (h : Wrd H) : Wrd (mix H W) := wrd_mz _ _ _ h
theorem u32s_set (L : List Int) (k : Nat) (v : Int) : (u32s L).setIfInBounds k (.int .u32 v) = u32s (L.set k v) := by simp [u32s, List.map_set]
theorem size_u32s (L : List Int) : (u32s L).size = L.length := by simp [u32s]
theorem all_u32s (L : List Int) : (u32s L).all (·.oneCell') = true := by simp [u32s, Value.oneCell']
theorem size_u8s (L : List Int) : (u8s L).size = L.length := by simp [u8s]
theorem all_u8s (L : List Int) : (u8s L).all (·.oneCell') = true := by simp [u8s, Value.oneCell']
theorem run_index_row {P : Program} {t el : TypeId} {n : Nat} {d : TypeDesc} {cs : Array Value} {v : Value} (hu : P.underlying t = some (.array n el)) (he : P.underlying el = some d) (hd : d.isRow = false) (hs : (P.info? el).map (·.size) = some 1) (k : Nat) (hk : k < n) (hv : cs[k]? = some v) (w : World) :
    (Instr.index t (.agg cs) (.int .i64 k)).run P w = .ok v w := by
  cases hq : P.info? el with
  | none => simp [hq] at hs
  | some i =>
    have hs1 : i.size = 1 := by simpa [hq] using hs
    have hagg : (isAgg el).run P w = .ok false w := by
      unfold isAgg
      rw [Sem.run_bind, run_underlying he w]
      cases d <;> simp_all [TypeDesc.isRow]
    have hc : (0 : Int) ≤ (k : Int) ∧ (k : Int) < (n : Int) := by omega
    simp [Instr.index, asIntOf, Sem.run_bind, run_underlying hu, hc, sizeOf, typeInfo, hq, hs1, part, hagg, hv]
    intro hc2; omega
end Go.Proofs.YtlbapcpcabieaaaDoor.Dig.Plain
