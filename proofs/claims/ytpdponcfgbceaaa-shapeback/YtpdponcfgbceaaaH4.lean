/-
  What New and Path of package shape answer, for every number of leaves and every shape that may be.
-/
import Derived.Test.YtpdponcfgbceaaaH3
import Derived.Laws.ResultCell
import Derived.Laws.Tables
import Derived.Deep.OwnRows
namespace Go.Proofs.Ytpdponcfgbceaaa
set_option linter.unusedVariables false
open Go.RowKit Plain

theorem results_S2 {fn : Func} {t u : Tmp} (h : fn.results = #[.cell t 25, .tmp u]) (tmps : Array Value) (w : World) (b : Nat) (v : Value) (ht : tmps.getD t undef = .pointer (some ⟨b, 0, none⟩)) (hg : w.heap[b]? = some (.cells #[v] 25 (0, 0))) :
    (results fn tmps).run Try.prog w = .ok (.tuple #[.agg #[v], tmps.getD u undef]) w := by
  have hl := run_loadVar_row (P := Try.prog) w b _ 25 _ _ _ hg Try.underlying25 rfl infoS
  rw [results_cell_tmp h, ht]
  simp [asAddr, hl]
theorem below_setRow' {S : Nat} {w w' : World} (h : Below S w w') (hg : S ≤ S) (cs : Array Value) : Below S w (w'.setRow S cs) :=
  ⟨h.os, h.tape, h.output, by simpa using h.size, fun k hk => by rw [setRow_other w' S k _ (by omega)]; exact h.block k hk⟩

/-- An operation whose value and world are known. -/
theorem wpList_run {ops : Array Oper} {rest : List Oper} {o : Oper} {a : Act} {w : World} {Q : Exit → Act → World → Prop} (hg : o.guard = none) (v : Value) (w' : World) (hr : (execOp a.eval o).run Try.prog w = .ok (.value v) w') (h : wpList Try.prog ops Q rest (a.put o.dst v) w') : wpList Try.prog ops Q (o :: rest) a w :=
  wpList_plain hg fun _ hK => by unfold Oper.wp; rw [hr]; exact hK _ _ h
/-- A struct built out of parts. -/
theorem exec_built {o : Oper} {ρ : Operand → Value} {w : World} (t : TypeId) (parts : List (Nat × Operand)) (ho : o.op = .build t parts.toArray) (ps : List (Nat × Value)) (hp : parts.map (fun x => (x.1, ρ x.2)) = ps) (cells : Array Value) (h : Try.prog.built t ps = some cells) :
    (execOp ρ o).run Try.prog w = .ok (.value (.agg cells)) w := by
  have h' : Try.prog.built t (parts.toArray.map fun (i, x) => (i, ρ x)).toList = some cells := by
    rw [← h, ← hp]; simp
  unfold execOp
  simp only [ho, Sem.run_bind, run_build w t _ cells h', Result.andThen_ok]
  rfl
theorem one_S (a : Option Addr) (n c : Nat) : (#[Value.slice a n c].all (·.oneCell')) = true := by simp [Value.oneCell']
/-- A shape stored whole into its box. -/
theorem wpList_stS {ops : Array Oper} {rest : List Oper} {o : Oper} {act : Act} {w : World} {Q : Exit → Act → World → Prop} (hgd : o.guard = none) (x y : Operand) (ho : o.op = .store 25 x y) (S : Nat) (a : Option Addr) (n c : Nat) (old : Value) (hx : act.eval x = .pointer (some ⟨S, 0, none⟩)) (hy : act.eval y = .agg #[.slice a n c])
    (hg : w.heap[S]? = some (.cells #[old] 25 (0, 0))) (h : wpList Try.prog ops Q rest (act.put o.dst undef) (w.setRow S #[.slice a n c])) : wpList Try.prog ops Q (o :: rest) act w :=
  wpList_store_row hgd 25 x y ho S _ hx hy 25 _ hg infoS rfl (one_S a n c) h
theorem built_S0 : Try.prog.built 25 [] = some #[.slice none 0 0] := by kernel_rfl
theorem built_S (a : Option Addr) (n c : Nat) : Try.prog.built 25 [(0, .slice a n c)] = some #[.slice a n c] := by kernel_rfl

set_option maxHeartbeats 1000000 in
theorem new_no (leaves : Int) (w : World) (h : leaves < 1 ∨ 1024 < leaves) :
    Calls Try.prog 9 #[.int .i64 leaves] w fun e w' => e = .returned (.tuple #[sv none 0 0, .int .i64 1]) ∧ Below w.heap.size w w' := by
  have HB : Box (Below w.heap.size w (w.alloc (.cells #[.slice none 0 0] 25))) := ⟨box_below _ _⟩
  have hr : (w.alloc (.cells #[.slice none 0 0] 25)).heap[w.heap.size]? = some (.cells #[.slice none 0 0] 25 (0, 0)) := al_at rfl
  by_cases h1 : leaves < 1
  · clear h
    go_enter Try.func9, Try.ntmps9
    go_upto_region 1 with fail
    generalize w.alloc (.cells #[.slice none 0 0] 25) = x at HB hr ⊢
    go_wp2_with (first
      | (refine wpList_run rfl _ _ (exec_built 25 [] rfl [] rfl _ built_S0) ?_)
      | (refine wpList_stS rfl _ _ rfl w.heap.size none 0 0 _ rfl rfl hr ?_))
    (try simp only [Exit.inBlock, Exit.then])
    refine bodyPost_ret (results_S2 rfl _ _ w.heap.size _ rfl (setRow_heap _ _ _ _ _ _ hr)) rfl ?_
    exact ⟨rfl, below_setRow' HB.out (Nat.le_refl _) _⟩
  · have h2 : 1024 < leaves := by omega
    clear h
    go_enter Try.func9, Try.ntmps9
    go_upto_region 1 with fail
    generalize w.alloc (.cells #[.slice none 0 0] 25) = x at HB hr ⊢
    go_wp2_with (first
      | (refine wpList_run rfl _ _ (exec_built 25 [] rfl [] rfl _ built_S0) ?_)
      | (refine wpList_stS rfl _ _ rfl w.heap.size none 0 0 _ rfl rfl hr ?_))
    (try simp only [Exit.inBlock, Exit.then])
    refine bodyPost_ret (results_S2 rfl _ _ w.heap.size _ rfl (setRow_heap _ _ _ _ _ _ hr)) rfl ?_
    exact ⟨rfl, below_setRow' HB.out (Nat.le_refl _) _⟩

/-- Where New's loop stands: the widths so far, and those that are still to come. -/
def Grows (w0 wr : World) (m k : Nat) (v : Value) : Prop :=
  ∃ (f : Nat) (A : List Int), wr.ownsRow w0.heap.size 3 1 v A.length (A.map (Value.int .i64)) ∧ A ++ ups f k = wid m ∧ k ≤ 4 ^ f ∧ Below w0.heap.size w0 wr
theorem Grows.start (w0 : World) (m : Nat) (h2 : m ≤ 1024) : Grows w0 (w0.alloc (.cells #[.int .i64 m, .int .i64 (up m : Nat)] 3)) m (up m) (.slice (some ⟨w0.heap.size, 0, none⟩) 2 2) :=
  ⟨4, [(m : Int), ((up m : Nat) : Int)], iown_new (X := [(m : Int), ((up m : Nat) : Int)]) rfl (by simp [maxLen]) _ (Nat.le_refl _), rfl, by unfold up; omega, box_below _ _⟩
theorem grows_short {m k f : Nat} {A : List Int} (h1 : 1 ≤ m) (h2 : m ≤ 1024) (h : A ++ ups f k = wid m) : A.length ≤ 6 := by
  have := (shp_wid m h1 h2).hi
  rw [← h, List.length_append] at this
  omega
theorem Grows.finish {w0 wr : World} {m k : Nat} {v : Value} (h : Grows w0 wr m k v) (hk : k ≤ 1) : ∃ a n cap, v = .slice a n cap ∧ Box (n = (wid m).length) ∧ Box (wr.ownsRow w0.heap.size 3 1 (.slice a n cap) n ((wid m).map (Value.int .i64)) ∧ n ≤ cap ∧ Below w0.heap.size w0 wr) := by
  obtain ⟨f, A, o1, o2, o3, o4⟩ := h
  rw [ups_end f k hk, List.append_nil] at o2
  subst o2
  obtain ⟨a, cap, rfl⟩ := iown_form o1
  exact ⟨a, _, cap, rfl, ⟨rfl⟩, ⟨o1, (iown_cap o1).1, o4⟩⟩
theorem Grows.step {w0 wr w' : World} {m k f : Nat} {v v' : Value} {A : List Int} (hA : A ++ ups f k = wid m) (hf : k ≤ 4 ^ f) (hlt : 1 < k) (h : w'.ownsRow w0.heap.size 3 1 v' (A.length + 1) ((A ++ [((up k : Nat) : Int)]).map (Value.int .i64)) ∧ Below w0.heap.size w0 w' ∧ w0.heap.size ≤ w'.heap.size) : Grows w0 w' m (up k) v' := by
  obtain ⟨g, e, hg⟩ := ups_step f k hlt hf
  refine ⟨g, A ++ [((up k : Nat) : Int)], by rw [List.length_append]; exact h.1, ?_, hg, h.2.1⟩
  rw [← hA, e, List.append_assoc]
  rfl
theorem lt_of_row {w : World} {g : Nat} {o : Obj} (h : w.heap[g]? = some o) : g < w.heap.size := (Array.getElem?_eq_some_iff.1 h).1
theorem iown_apart {w w' : World} {base n G : Nat} {v : Value} {xs : List Value} (h : w.ownsRow base 3 1 v n xs) (hG : G < base) (cs : Array Value) (e : w' = w.setRow G cs) : w'.ownsRow base 3 1 v n xs := by
  subst e
  refine ⟨h.1, ?_⟩
  rcases h.2 with h3 | ⟨g, cap', cur, h3, hb', hh, r⟩
  · exact .inl h3
  · exact .inr ⟨g, cap', cur, h3, hb', by rw [setRow_other w G g _ (by omega)]; exact hh, r⟩
theorem new_end {w w0 wr : World} {a : Option Addr} {n cap : Nat} {L : List Int} {cs : Array Value} {o : Obj} (hB : Below w.heap.size w w0) (hR : w0.heap[w.heap.size]? = some o) (hF : wr.ownsRow w0.heap.size 3 1 (.slice a n cap) n (L.map (Value.int .i64)) ∧ n ≤ cap ∧ Below w0.heap.size w0 wr) :
    Ints (wr.setRow w.heap.size cs) a n L ∧ n ≤ cap ∧ Below w.heap.size w (wr.setRow w.heap.size cs) :=
  ⟨iown_ints (iown_apart hF.1 (lt_of_row hR) cs rfl), hF.2.1, below_setRow' (below_to hB hF.2.2) (Nat.le_refl _) _⟩

set_option maxHeartbeats 2000000 in
theorem new_ok (m : Nat) (w : World) (h1 : 1 ≤ m) (h2 : m ≤ 1024) :
    Calls Try.prog 9 #[.int .i64 m] w fun e w' => ∃ a cap, e = .returned (.tuple #[sv a (wid m).length cap, .int .i64 0]) ∧ Ints w' a (wid m).length (wid m) ∧ (wid m).length ≤ cap ∧ Below w.heap.size w w' := by
  have g1 : ¬ (m : Int) < 1 := by omega
  have g2 : ¬ 1024 < (m : Int) := by omega
  have HC : Box (∀ (x : World) (k : Nat), k ≤ 1024 → Calls Try.prog 23 #[.int .i64 (k : Int)] x fun e w' => e = .returned (.int .i64 (up k : Nat)) ∧ x = w') := ⟨fun x k hk => above_any k x hk⟩
  have HB : Box (Below w.heap.size w (w.alloc (.cells #[.slice none 0 0] 25))) := ⟨box_below _ _⟩
  have HR : Box ((w.alloc (.cells #[.slice none 0 0] 25)).heap[w.heap.size]? = some (.cells #[.slice none 0 0] 25 (0, 0))) := ⟨al_at rfl⟩
  go_enter Try.func9, Try.ntmps9
  go_upto_region 1 with fail
  generalize w.alloc (.cells #[.slice none 0 0] 25) = w0 at HB HR ⊢
  go_wp2_with (go_at_call 23; refine Calls.mono (HC.out _ _ h2) ?_; rintro e w' ⟨rfl, rfl⟩)
  have H0 : Box (Grows w0 (w0.alloc (.cells #[.int .i64 m, .int .i64 (up m : Nat)] 3)) m (up m) (.slice (some ⟨w0.heap.size, 0, none⟩) 2 2)) := ⟨Grows.start w0 m h2⟩
  have hu : up m ≤ 1024 := by unfold up; omega
  go_loopw [4, 5] (fun u v wr => ∃ k : Nat, k ≤ 1024 ∧ u = .int .i64 k ∧ Box (Grows w0 wr m k v)) (fun u _ _ => (intOf u).toNat)
  case atStart => exact ⟨_, hu, rfl, H0⟩
  case round =>
    obtain ⟨k, hk, rfl, HG⟩ := hrel
    clear H0
    by_cases hlt : 1 < k
    · have g3 : (1 : Int) < (k : Int) := by omega
      have hu : up k ≤ 1024 ∧ up k < k := by unfold up; omega
      go_wp2_with (first
        | (go_at_call 23; refine Calls.mono (HC.out _ _ hk) ?_; rintro e w' ⟨rfl, rfl⟩)
        | (at_builtin; obtain ⟨f, A, o1, o2, o3, o4⟩ := HG.out; refine wpList_iapp rfl (.tmp 22) (.tmp 24) rfl w0.heap.size A.length 1 1 _ A [((up k : Nat) : Int)] ⟨wr.heap.size, 0, none⟩ w0 rfl rfl (iown_later o1 (box_below _ _)) (ints_of_row (X := [((up k : Nat) : Int)]) (al_at rfl)) (by have := grows_short h1 h2 o2; omega) (o4.alloc o4.size _) (Nat.le_trans o4.size (by simp)) ?_; intro v' w' H1; have H2 : Box (Grows w0 w' m (up k) v') := ⟨Grows.step (wr := wr) (v := .slice none 0 0) o2 o3 hlt H1.out⟩; clear o1 o2 o3 o4 H1))
      go_roundw
      case rel => exact ⟨up k, hu.1, rfl, H2⟩
      case measure => simp [intOf]; omega
    · have g3 : ¬ (1 : Int) < (k : Int) := by omega
      obtain ⟨a, n, cap, rfl, HN, HF⟩ := Grows.finish HG.out (by omega)
      go_wp2_with (first
        | (refine wpList_run rfl _ _ (exec_built 25 [(0, .tmp 26)] rfl [(0, .slice a n cap)] rfl _ (built_S a n cap)) ?_)
        | (refine wpList_stS rfl _ _ rfl w.heap.size a n cap _ rfl rfl (HF.out.2.2.block _ (lt_of_row HR.out)|>.trans HR.out) ?_))
      (try simp only [Exit.inBlock, Exit.then])
      refine bodyPost_ret (results_S2 rfl _ _ w.heap.size _ rfl (setRow_heap _ _ _ _ _ _ (HF.out.2.2.block _ (lt_of_row HR.out)|>.trans HR.out))) rfl ?_
      have hn := HN.out
      subst hn
      exact ⟨a, cap, rfl, new_end HB.out HR.out HF.out⟩
end Go.Proofs.Ytpdponcfgbceaaa
