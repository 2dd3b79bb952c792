/-
  Digits by 16 of bytes, and bytes of digits; nothing of the program is said here but the types' numbers.
-/
import Derived.Test.YtanpbceppjpblaaDoorP5
import Derived.Test.YtanpbceppjpblaaDoorR1
import Derived.Laws.BytesArg
namespace Go.Proofs.YtanpbceppjpblaaDoor
set_option linter.unusedVariables false
open Go.RowKit Plain

/-- The bytes of a string, as numbers. -/
def nums (S : ByteArray) : List Int := S.data.toList.map fun b => (b.toNat : Int)
theorem length_nums (S : ByteArray) : (nums S).length = S.size := by rw [nums, List.length_map, Array.length_toList]; rfl
theorem byt_nums (S : ByteArray) : Byt (nums S) := by
  intro i
  unfold nums
  simp only [List.getD, List.getElem?_map]
  cases S.data.toList[i]? with
  | none => simp
  | some b => have := b.toNat_lt; simp; omega
theorem nums_str (L : List Int) (hb : Byt L) : nums (strOfNums L) = L := by
  apply List.ext_getElem
  · simp [nums, strOfNums]
  · intro i h1 h2
    have hi := hb i
    rw [List.getD, List.getElem?_eq_getElem h2] at hi
    simp only [Option.getD_some] at hi
    simp only [nums, strOfNums_data, List.map_map, List.getElem_map, Function.comp]
    rw [UInt8.toNat_ofNat_of_lt' (by simp [UInt8.size]; omega)]
    omega
theorem str_nums (S : ByteArray) : strOfNums (nums S) = S := by
  apply ByteArray.ext
  rw [← Array.toList_inj, strOfNums_data, nums, List.map_map]
  refine List.map_id'' (fun b => ?_) _
  show UInt8.ofNat ((b.toNat : Int).toNat) = b
  rw [Int.toNat_natCast, UInt8.ofNat_toNat]
theorem index_str (S : ByteArray) (k : IntKind) (i : Nat) (h : i < S.size) (w : World) : (Instr.index 9 (.string S) (.int k i)).run Tryd.prog w = .ok (.int .u8 ((nums S).getD i 0)) w := by
  have h' : i < S.data.size := h
  have e : S[i]? = some S[i] := getElem?_pos S i h
  have e2 : (nums S).getD i 0 = (S[i].toNat : Int) := by
    unfold nums
    simp only [List.getD, List.getElem?_map, Array.getElem?_toList, Array.getElem?_eq_getElem h']
    rfl
  rw [e2]
  simp [Instr.index, asIntOf, Sem.run_bind, run_underlying Tryd.underlying9, e]

/-- What a digit counts, and whether it is one. -/
def vd (c : Int) : Int := if 48 ≤ c ∧ c ≤ 57 then c - 48 else if 97 ≤ c ∧ c ≤ 102 then c - 87 else 0
def vo (c : Int) : Bool := decide (48 ≤ c ∧ c ≤ 57) || decide (97 ≤ c ∧ c ≤ 102)
theorem vd_bd (c : Int) : 0 ≤ vd c ∧ vd c ≤ 15 := by unfold vd; split <;> (try split) <;> omega
def digL : List Int := [48, 49, 50, 51, 52, 53, 54, 55, 56, 57, 97, 98, 99, 100, 101, 102]
def dig (i : Nat) : Int := digL.getD i 0
theorem dig_bd (i : Nat) : 0 ≤ dig i ∧ dig i ≤ 255 := by
  by_cases h : i < 16
  · have key : ∀ j : Fin 16, 0 ≤ dig j.val ∧ dig j.val ≤ 255 := by decide +kernel
    exact key ⟨i, h⟩
  · have e : dig i = 0 := by
      unfold dig
      simp only [List.getD]
      rw [List.getElem?_eq_none (by show 16 ≤ i; omega)]; rfl
    rw [e]; omega
theorem vd_dig (i : Nat) (h : i < 16) : vd (dig i) = (i : Int) ∧ vo (dig i) = true := by
  have key : ∀ j : Fin 16, vd (dig j.val) = (j.val : Int) ∧ vo (dig j.val) = true := by decide +kernel
  exact key ⟨i, h⟩
/-- The digits of the first k bytes. -/
def hexL (D : List Int) : Nat → List Int
  | 0 => []
  | k + 1 => hexL D k ++ [dig ((D.getD k 0).toNat / 16), dig ((D.getD k 0).toNat % 16)]
theorem length_hexL (D : List Int) (k : Nat) : (hexL D k).length = 2 * k := by
  induction k with
  | zero => rfl
  | succ k ih => simp [hexL, ih]; omega
theorem byt_hexL (D : List Int) (k : Nat) : Byt (hexL D k) := by
  induction k with
  | zero => exact byt_nil
  | succ k ih => exact byt_app _ _ ih (byt_cons _ _ (dig_bd _) (byt_cons _ _ (dig_bd _) byt_nil))
/-- The byte of digits 2i and 2i+1, and those of the first k pairs. -/
def rdb (T : List Int) (i : Nat) : Int := vd (T.getD (2 * i) 0) * 16 + vd (T.getD (2 * i + 1) 0)
def rdl (T : List Int) : Nat → List Int
  | 0 => []
  | k + 1 => rdl T k ++ [rdb T k]
theorem length_rdl (T : List Int) (k : Nat) : (rdl T k).length = k := by
  induction k with
  | zero => rfl
  | succ k ih => simp [rdl, ih]
theorem rdb_bd (T : List Int) (i : Nat) : 0 ≤ rdb T i ∧ rdb T i ≤ 255 := by
  have h1 := vd_bd (T.getD (2 * i) 0)
  have h2 := vd_bd (T.getD (2 * i + 1) 0)
  unfold rdb; omega
theorem byt_rdl (T : List Int) (k : Nat) : Byt (rdl T k) := by
  induction k with
  | zero => exact byt_nil
  | succ k ih => exact byt_app _ _ ih (byt_cons _ _ (rdb_bd _ _) byt_nil)
theorem or_dig (h l : Int) (hh : 0 ≤ h ∧ h ≤ 15) (hl : 0 ≤ l ∧ l ≤ 15) : bits .or .u8 (h * 16) l = h * 16 + l := by
  obtain ⟨H, rfl⟩ := Int.eq_ofNat_of_zero_le hh.1
  obtain ⟨L, rfl⟩ := Int.eq_ofNat_of_zero_le hl.1
  have := u8_or_nat (H * 16) L (by omega) (by omega)
  simp only [Int.natCast_mul, Int.cast_ofNat_Int] at this
  rw [this, nat_join 4 (H * 16) L (by omega) (by omega)]
  simp
theorem and15 (z : Int) (h : 0 ≤ z ∧ z ≤ 255) : bits .and .u8 z 15 = ((z.toNat % 16 : Nat) : Int) := by
  have key : ∀ j : Fin 256, bits .and .u8 (j.val : Int) 15 = ((j.val % 16 : Nat) : Int) := by decide +kernel
  obtain ⟨Z, rfl⟩ := Int.eq_ofNat_of_zero_le h.1
  exact key ⟨Z, by omega⟩
theorem hexL_at (D : List Int) (k i : Nat) (h : i < 2 * k) : (hexL D k).getD i 0 = if i % 2 = 0 then dig ((D.getD (i / 2) 0).toNat / 16) else dig ((D.getD (i / 2) 0).toNat % 16) := by
  induction k with
  | zero => omega
  | succ k ih =>
    rw [hexL, getD_app, length_hexL]
    by_cases hi : i < 2 * k
    · rw [if_pos hi]; exact ih hi
    · rw [if_neg hi]
      by_cases e : i = 2 * k
      · subst e
        rw [if_pos (by omega), show 2 * k - 2 * k = 0 by omega, show 2 * k / 2 = k by omega]; rfl
      · obtain rfl : i = 2 * k + 1 := by omega
        rw [if_neg (by omega), show 2 * k + 1 - 2 * k = 1 by omega, show (2 * k + 1) / 2 = k by omega]; rfl
/-- Digits of bytes are read as these. -/
theorem rdl_hexL (D : List Int) (n : Nat) (hD : Byt D) (hn : D.length = n) : rdl (hexL D n) n = D := by
  have key : ∀ k, k ≤ n → rdl (hexL D n) k = D.take k := by
    intro k
    induction k with
    | zero => intro _; rfl
    | succ k ih =>
      intro hk
      rw [rdl, ih (by omega), List.take_succ_eq_append_getElem (by omega)]
      congr 2
      have hb := hD k
      have e : D.getD k 0 = D[k] := by simp [List.getD, show k < D.length by omega]
      unfold rdb
      rw [hexL_at D n (2 * k) (by omega), hexL_at D n (2 * k + 1) (by omega), if_pos (by omega), if_neg (by omega), show 2 * k / 2 = k by omega, show (2 * k + 1) / 2 = k by omega, e]
      rw [e] at hb
      rw [(vd_dig _ (by omega)).1, (vd_dig _ (by omega)).1]
      omega
  rw [key n (Nat.le_refl _), List.take_of_length_le (by omega)]
theorem vo_hexL (D : List Int) (n i : Nat) (hD : Byt D) (h : i < 2 * n) : vo ((hexL D n).getD i 0) = true := by
  have hb := hD (i / 2)
  rw [hexL_at D n i h]
  split
  · exact (vd_dig _ (by omega)).2
  · exact (vd_dig _ (by omega)).2
theorem fil8_splice (X Y : List Int) (n : Nat) (h : X.length + Y.length ≤ n) : splice (fil8 X n).toList X.length (Y.map (Value.int .u8)) = (fil8 (X ++ Y) n).toList := by
  have e : n - X.length = Y.length + (n - X.length - Y.length) := by omega
  simp only [fil8, u8s, splice, List.map_append, List.length_append, List.length_map]
  simp only [List.map_replicate]
  rw [List.take_append_of_le_length (by simp), List.take_of_length_le (by simp), List.drop_append, List.drop_of_length_le (by simp)]
  simp only [List.length_map, List.drop_replicate, List.nil_append, List.append_assoc]
  rw [show n - X.length - (X.length + Y.length - X.length) = n - (X.length + Y.length) by omega]
theorem results_row_tmp {P : Program} {fn : Func} {p q : Tmp} {ty : TypeId} (h : fn.results = #[.cell p ty, .tmp q]) (tmps : Array Value) (w : World) (g : Nat) (t : TypeId) (cs : Array Value) (fr : Nat × Nat) (d : TypeDesc)
    (hp : tmps.getD p undef = .pointer (some ⟨g, 0, none⟩)) (hg : w.heap[g]? = some (.cells cs t fr))
    (hu : P.underlying ty = some d) (hd : (match d with | .struct _ | .array _ _ => true | _ => false) = true) (hi : (P.info? ty).map (·.size) = some cs.size) :
    (results fn tmps).run P w = .ok (.tuple #[.agg cs, tmps.getD q undef]) w := by
  have hp' : tmps[p]?.getD undef = .pointer (some ⟨g, 0, none⟩) := by simpa using hp
  simp [results, h, hp', asAddr, run_loadVar_row w g t ty cs fr d hg hu hd hi]
theorem conv_row {w : World} {g n cap : Nat} {X : List Int} (hb : Bytes w (some ⟨g, 0, none⟩) n X) (hn : 0 < n) : (convert 22 9 (.slice (some ⟨g, 0, none⟩) n cap)).run Tryd.prog w = .ok (.string (strOfNums X)) w := by
  obtain ⟨b, off, e, _, hc⟩ := hb.2.2 hn
  cases e
  exact run_convert_bytes_arg w 22 5 Tryd.underlying22 Tryd.underlying5 _ _ n cap X hb.1 hc 9 Tryd.underlying9
end Go.Proofs.YtanpbceppjpblaaDoor
