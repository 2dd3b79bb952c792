/-
  What the Go function New of package disk answers, for every number of places.
-/
import Derived.Test.YtlokhbkjkobmaaaZ2
namespace Go.Proofs.Ytlokhbkjkobmaaa
set_option linter.unusedVariables false
open Go.RowKit Plain

theorem exec_make {P : Program} {o : Oper} {ρ : Operand → Value} {w : World} (t e : TypeId) (l c : Operand) (ho : o.op = .makeSlice t l c) (z : Value) (size bytes : Nat) (ht : P.underlying t = some (.slice e)) (hi : (P.info? e).map (fun i => (i.zero, i.size, i.bytes)) = some (some z, size, bytes))
    (n : Nat) (hl : ρ l = .int .i64 (n : Int)) (hc : ρ c = .int .i64 (n : Int)) (hb : bytes * n ≤ 281474976710656) (h63 : n ≤ 9223372036854775807) :
    (execOp ρ o).run P w = .ok (.value (.slice (some ⟨w.heap.size, 0, none⟩) n n)) (w.alloc (.cells (madeCells z.cells (n * size)) e)) := by
  obtain ⟨i, hi1, hz, rfl, rfl⟩ := info_parts hi
  have hb' : (i.bytes : Int) * (n : Int) ≤ 281474976710656 := by
    have h : ((i.bytes * n : Nat) : Int) ≤ 281474976710656 := by omega
    rwa [Int.natCast_mul] at h
  have hr := run_make (P := P) w t e i z ht hi1 hz .i64 .i64 n n (by omega) (Int.le_refl _) hb' (by omega)
  unfold execOp
  simp only [ho, hl, hc, hr, Sem.run_bind, Sem.run_pure, Result.andThen_ok, Int.toNat_natCast]
theorem made_at (z : Array Value) (n i : Nat) (v : Value) (hi : i < n) (hz : 0 < z.size) (h : ∀ j, j < z.size → z[j]? = some v) : (madeCells z n)[i]? = some v := by
  have h1 : i % z.size < z.size := Nat.mod_lt _ hz
  have h2 := h _ h1
  rw [Array.getElem?_eq_getElem h1] at h2
  simp only [Option.some.injEq] at h2
  simp [madeCells, hi, h1, h2]
theorem size_made (z : Array Value) (n : Nat) : (madeCells z n).size = n := by simp [madeCells]
theorem zero_at (n j : Nat) (h : j < n) : (u8s (List.replicate n 0))[j]? = some (.int .u8 0) := by simp [u8s, h]
theorem made_pls (n : Nat) : Pls (madeCells (u8s (z192)) (n * 192)) n (fun _ => z192) := by
  refine ⟨by rw [size_made, Nat.mul_comm], fun i hi j hj => ?_⟩
  have e : z192.getD j 0 = 0 := getD_z192 j
  rw [e]
  refine made_at _ _ _ _ ?_ (by rw [size_u8s, length_z192]; omega) (fun j hj => zero_at 192 j (by rw [size_u8s, length_z192] at hj; exact hj))
  have : 192 * i + 192 ≤ 192 * n := by rw [← Nat.mul_succ]; exact Nat.mul_le_mul_left _ hi
  omega
theorem one_zero : ∀ j, j < (#[.int .u8 0] : Array Value).size → (#[.int .u8 0] : Array Value)[j]? = some (.int .u8 0) := by
  intro j hj
  have : j = 0 := by simp at hj; omega
  subst this
  rfl
theorem made_bytes (n : Nat) : madeCells #[.int .u8 0] n = u8s (List.replicate n 0) := by
  apply Array.ext
  · rw [size_made, size_u8s, List.length_replicate]
  · intro i h1 h2
    have hi : i < n := by rw [size_made] at h1; exact h1
    have a1 := made_at #[.int .u8 0] n i (.int .u8 0) hi (by decide) (one_zero)
    have a2 := zero_at n i hi
    rw [Array.getElem?_eq_getElem h1] at a1
    rw [Array.getElem?_eq_getElem h2] at a2
    simp only [Option.some.injEq] at a1 a2
    rw [a1, a2]
theorem info79b : (Try.prog.info? 79).map (fun i => (i.zero, i.size, i.bytes)) = some (some (.agg (u8s (z192))), 192, 192) := by kernel_rfl
/-- A new disk. -/
def dk0 (n : Nat) : Dk := ⟨n, fun _ => z192, [], [], false, false, 0⟩
theorem at_new (w : World) (n : Nat) (hn : 1 ≤ n ∧ n ≤ 4096) :
    At ((w.alloc (.cells (madeCells (u8s (z192)) (n * 192)) 79)).alloc (.cells #[.slice (some ⟨w.heap.size, 0, none⟩) n n, .slice none 0 0, .slice none 0 0, .bool false, .bool false, .int .i64 0] 67)) (w.heap.size + 1) w.heap.size (.slice none 0 0) (.slice none 0 0) (dk0 n) :=
  ⟨al_at (by simp), ⟨_, al_old (al_at rfl), made_pls n⟩, fun _ => ⟨length_z192, byt_z192⟩, hn, World.ownsRow_nil _ _ _ _, fun x hx => by simp [dk0] at hx, World.ownsRow_nil _ _ _ _, by omega, by simp [Value.ownBlock], by simp [Value.ownBlock], .inl rfl⟩
theorem made_foot (s : Nat) (k : Nat) (h : foot (s + 1) s (.slice none 0 0) (.slice none 0 0) k) : s ≤ k := by
  rcases h with rfl | rfl | h | h
  · omega
  · omega
  · simp [Value.ownBlock] at h
  · simp [Value.ownBlock] at h
set_option maxHeartbeats 1000000 in
theorem new_any (w : World) (n : Nat) (hn : 1 ≤ n ∧ n ≤ 4096) : Calls Try.prog 10 #[.int .i64 (n : Int)] w fun e w' => e = .returned (.tuple #[.pointer (some ⟨w.heap.size + 1, 0, none⟩), .int .i64 0]) ∧ Is w' (w.heap.size + 1) (fun k => w.heap.size ≤ k) (dk0 n) ∧ Below w.heap.size w w' := by
  have H : Box _ := ⟨at_new w n hn⟩
  have HX : Box (192 * n ≤ 281474976710656 ∧ n ≤ 9223372036854775807) := ⟨by omega, by omega⟩
  have h1 : decide ((n : Int) < 1) = false := by simp; omega
  have h2 : decide (4096 < (n : Int)) = false := by simp; omega
  clear hn
  go_enter Try.func10, Try.ntmps10
  go_wp2_with (refine wpList_run rfl _ _ (exec_make 64 79 _ _ rfl (.agg (u8s (z192))) 192 192 Try.underlying64 info79b n rfl rfl HX.out.1 HX.out.2) ?_)
  go_ret2
  exact ⟨rfl, ⟨_, _, _, H.out, made_foot _⟩, ((Below.refl _ w).alloc (Nat.le_refl _) _).alloc (by simp) _⟩
set_option maxHeartbeats 1000000 in
theorem new_no (w : World) (n : Int) (hn : n < 1 ∨ 4096 < n) : Calls Try.prog 10 #[.int .i64 n] w fun e w' => e = .returned (.tuple #[.pointer none, .int .i64 1]) ∧ w = w' := by
  by_cases h1 : n < 1
  · have h1 : decide (n < 1) = true := by simpa using h1
    clear hn
    go_enter Try.func10, Try.ntmps10
    go_wp2
    go_ret2
    exact ⟨rfl, rfl⟩
  · have h1 : decide (n < 1) = false := by simpa using h1
    have h2 : decide (4096 < n) = true := by simp at h1 ⊢; omega
    clear hn
    go_enter Try.func10, Try.ntmps10
    go_wp2
    go_ret2
    exact ⟨rfl, rfl⟩
end Go.Proofs.Ytlokhbkjkobmaaa
