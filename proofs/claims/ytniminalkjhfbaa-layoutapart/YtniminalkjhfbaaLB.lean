/-
  What the functions Put and Get of package layout answer, for every layout that New makes and for any bytes.
-/
import Derived.Test.YtniminalkjhfbaaLA
import Derived.Test.YtniminalkjhfbaaU3
import Derived.Laws.StructEq
import Derived.Lib.SlBytesConst
import Derived.Laws.Append
namespace Go.Proofs.Ytniminalkjhfbaa
set_option linter.unusedVariables false
open Go.RowKit Plain

theorem size5 : (Try.prog.info? 5).map (·.size) = some 1 := by kernel_rfl
set_option maxHeartbeats 400000 in
theorem pad_ok (a : Option Addr) (len cap : Nat) (L : List Int) (n : Nat) (w : World) (hb : Bytes w a len L) (h1 : 1 ≤ n) (h2 : n ≤ 2147483648) :
    Calls Try.prog 20 #[.slice a len cap, .int .i64 n] w fun e w' => ∃ g, e = .returned (.slice (some ⟨g, 0, none⟩) n n) ∧ Out w w' (some ⟨g, 0, none⟩) n n (padTo L n) := by
  obtain ⟨i0, hi, hz0, hz1, hz2⟩ := info_parts info5
  have hlm : n ≤ maxLen := by unfold maxLen; omega
  have hLl := hb.1
  have hn1 : ¬ (n : Int) < 1 := by omega
  have hn2 : ¬ (2147483648 : Int) < (n : Int) := by omega
  go_enter Try.func20, Try.ntmps20
  go_wp2_with (first | (at_make; refine wpList_make_full _ rfl (.tmp 13) (.tmp 13) 35 rfl _ 5 i0 (.int .u8 0) 1 Try.underlying35 hi hz0 hz1 _ _ _ _ n rfl rfl rfl rfl (by rw [hz2]; omega) hlm (Nat.le_refl _) ?_; intro w1 hown hgrow; have HR := made_row hown; clear hown; have hbl := (Below.refl w.heap.size w).grown hgrow (Nat.le_refl _) (by simp); have hb1 := hb.below hbl) | (refine wpList_copy_splice rfl (.tmp 15) (.tmp 16) 35 35 rfl 5 Try.underlying35 size5 _ _ _ _ _ _ rfl rfl w.heap.size 0 _ 5 HR ((L.take n).map (Value.int .u8)) (length_cut L n len hLl) (fun h => ⟨rfl, hb1.src_take n (pos_cut L n len hLl h)⟩) (fit_cut L n) (ints_oneCell _ _) w.heap.size w hbl (Nat.le_refl _) ?_; intro w2 HG2 hB2))
  have HG := HG2.out
  rw [splice_pad L n] at HG
  clear HR hgrow HG2 hb1 hb
  go_ret
  exact ⟨_, rfl, Out.of_row (length_padTo L n) hlm (Nat.le_refl _) HG hB2⟩

def hdr : List Int := [82, 76, 81, 49]
/-- The bytes of a first block. -/
def lb (b i : Int) : List Int := padTo (hdr ++ bytesOf b 4 ++ bytesOf i 4) 160
theorem length_lb (b i : Int) : (lb b i).length = 160 := length_padTo _ _
theorem byt_hdr : Byt hdr := by unfold hdr; exact byt_cons _ _ (by omega) (byt_cons _ _ (by omega) (byt_cons _ _ (by omega) (byt_cons _ _ (by omega) byt_nil)))
theorem byt_pre (b i : Int) : Byt (hdr ++ bytesOf b 4 ++ bytesOf i 4) := byt_app _ _ (byt_app _ _ byt_hdr (bytesOf_bd b 4)) (bytesOf_bd i 4)
theorem byt_lb (b i : Int) : Byt (lb b i) := by
  unfold lb padTo
  exact byt_app _ _ (byt_take _ _ (byt_pre b i)) (byt_zeros _)
/-- A row of a call's own that grows. -/
def Pu (w1 wr : World) (B : Nat) (v : Value) (n : Nat) (A : List Int) : Prop :=
  wr.ownsRow B 5 1 v n (A.map (Value.int .u8)) ∧ Below B w1 wr ∧ B ≤ wr.heap.size
theorem Pu.below {w1 wr w' : World} {B n : Nat} {v : Value} {A : List Int} (h : Pu w1 wr B v n A) (hb : Below wr.heap.size wr w') : Pu w1 w' B v n A :=
  ⟨own_later h.1 hb, h.2.1.trans (hb.mono h.2.2), Nat.le_trans h.2.2 hb.size⟩
theorem Pu.app {w1 wr w' : World} {B n m : Nat} {v v' : Value} {A L : List Int} (h : Pu w1 wr B v n A) (hw : Box (w'.ownsRow B 5 1 v' (n + m) ((A ++ L).map (Value.int .u8)) ∧ Below B wr w' ∧ B ≤ w'.heap.size)) : Pu w1 w' B v' (n + m) (A ++ L) :=
  ⟨hw.out.1, h.2.1.trans hw.out.2.1, hw.out.2.2⟩
theorem own_lit (w : World) (A : List Int) (B : Nat) (hB : B ≤ w.heap.size) (hA : A.length ≤ maxLen) : (w.alloc (.cells (u8s A) 5)).ownsRow B 5 1 (.slice (some ⟨w.heap.size, 0, none⟩) A.length A.length) A.length (A.map (Value.int .u8)) := by
  refine ⟨by simp, .inr ⟨w.heap.size, A.length, _, rfl, hB, al_at rfl, Nat.le_refl _, hA, by simp [u8s], by simp [u8s, List.take_of_length_le]⟩⟩
/-- Bytes appended to a row that has no room: the row that comes is the call's own. -/
theorem wpList_appG {ops : Array Oper} {rest : List Oper} {o : Oper} {act : Act} {w : World} {Q : Exit → Act → World → Prop} (hgd : o.guard = none) (s x : Operand)
    (ho : o.op = .call { callee := .builtin .append, args := #[s, x], argTypes := #[35, 35] }) (base n m c : Nat) (A L : List Int) (a a2 : Addr) (w0 : World)
    (hs : act.eval s = .slice (some a) n n) (hx : act.eval x = .slice (some a2) m c) (hA : Bytes w (some a) n A) (hb : Bytes w (some a2) m L) (hm : 1 ≤ m) (hl : n + m ≤ 140737488355328) (hbel : Below base w0 w) (hbase : base ≤ w.heap.size)
    (h : ∀ v' w', Box (w'.ownsRow base 5 1 v' (n + m) ((A ++ L).map (Value.int .u8)) ∧ Below base w0 w' ∧ base ≤ w'.heap.size) → wpList Try.prog ops Q rest (act.put o.dst v') w') : wpList Try.prog ops Q (o :: rest) act w := by
  obtain ⟨i0, hi, hz0, hz1, hz2⟩ := info_parts info5
  have hrun := run_append_grow (P := Try.prog) w 35 o.type 5 i0 (.int .u8 0) Try.underlying35 hi hz0 a n n (A.map (Value.int .u8)) (by rw [hz1]; simp [hA.1]) (bytes_news hA)
    a2 m c (L.map (Value.int .u8)) (by rw [hz1]; simp [hb.1]) (bytes_news hb) (by omega) (by omega) (by rw [hz2]; exact growslice_fits (by omega) (by omega))
  have hge := grownCap_ge w (n + m) n 5
  have hle := grownCap_le_maxLen w (n + m) n 5 (by unfold maxLen; omega)
  have e0 : (Value.int .u8 0).cells = #[Value.int .u8 0] := rfl
  have hlA := hA.1
  have hlL := hb.1
  refine wpList_plain hgd fun _ hK => ?_
  unfold Oper.wp execOp
  simp only [ho, resolve, invoke, builtin, Sem.run_bind, Sem.run_pure, Result.andThen_ok, List.map_toArray, List.map_cons, List.map_nil, hs, hx, hrun]
  refine hK _ _ (h _ _ ⟨⟨by simp [hlA, hlL], .inr ⟨w.heap.size, _, _, rfl, hbase, al_at rfl, hge, hle, ?_, ?_⟩⟩, hbel.drew.alloc hbase _, ?_⟩)
  · simp [e0, Builtin.zeroCells, hlA, hlL]; omega
  · simp [hlA, hlL, List.take_append, List.take_of_length_le]
  · simp; omega
theorem byt_lits (w : World) (A : List Int) (hA : Byt A) (k : Nat × Nat) : Bytes (w.alloc (.cells (u8s A) 5 k)) (some ⟨w.heap.size, 0, none⟩) A.length A := bytes_of_row hA (al_at rfl)
theorem put4 (x : Int) (w : World) (h0 : 0 ≤ x) (h1 : x ≤ 1024) :
    Calls Try.prog 19 #[.int .u64 x, .int .i64 4] w fun e w' => ∃ g, e = .returned (.slice (some ⟨g, 0, none⟩) 4 4) ∧ Bytes w' (some ⟨g, 0, none⟩) 4 (bytesOf x 4) ∧ Below w.heap.size w w' :=
  (put_ok x 4 w h0 (by omega) (by omega) (by omega)).mono fun e w' ⟨g, he, ho⟩ => ⟨g, he, ho.bytes (bytesOf_bd x 4), ho.2.2⟩
theorem pad160 (a : Option Addr) (cap : Nat) (w : World) (L : List Int) (hb : Bytes w a 12 L) :
    Calls Try.prog 20 #[.slice a 12 cap, .int .i64 160] w fun e w' => ∃ g, e = .returned (.slice (some ⟨g, 0, none⟩) 160 160) ∧ Out w w' (some ⟨g, 0, none⟩) 160 160 (padTo L 160) :=
  pad_ok a 12 cap L 160 w hb (by omega) (by omega)

set_option maxHeartbeats 2000000 in
theorem lput_any (b i t d : Int) (w : World) (hb : 0 ≤ b ∧ b ≤ 1024) (hi : 0 ≤ i ∧ i ≤ 500) :
    Calls Try.prog 14 #[.agg (lc b i t d)] w fun e w' => ∃ g, e = .returned (.slice (some ⟨g, 0, none⟩) 160 160) ∧ Out w w' (some ⟨g, 0, none⟩) 160 160 (lb b i) := by
  obtain ⟨S, hS⟩ : ∃ S, w.heap.size = S := ⟨_, rfl⟩
  have HS : Box (w.heap.size = S) := ⟨hS⟩
  have H1 : Box (Lay (w.alloc (.cells (lc b i t d) 24)) S b i t d ∧ (w.alloc (.cells (lc b i t d) 24)).heap.size = S + 1 ∧ Below S w (w.alloc (.cells (lc b i t d) 24))) := ⟨al_at hS, by simp [hS], (Below.refl _ _).alloc (by omega) _⟩
  clear hS
  go_enter Try.func14, Try.ntmps14
  go_upto_region 1 with fail
  rw [HS.out]
  change Code.wp _ _ _ _ (w.alloc (.cells (lc b i t d) 24))
  generalize w.alloc (.cells (lc b i t d) 24) = w1 at H1 ⊢
  have H2 : Box (Bytes (w1.alloc (.cells #[.int .u8 82, .int .u8 76, .int .u8 81, .int .u8 49] 5 (4, 5))) (some ⟨w1.heap.size, 0, none⟩) 4 hdr ∧ Below (S + 1) w1 (w1.alloc (.cells #[.int .u8 82, .int .u8 76, .int .u8 81, .int .u8 49] 5 (4, 5))) ∧ S + 1 ≤ (w1.alloc (.cells #[.int .u8 82, .int .u8 76, .int .u8 81, .int .u8 49] 5 (4, 5))).heap.size) := ⟨byt_lits w1 hdr byt_hdr (4, 5), (Below.refl _ _).alloc (by rw [H1.out.2.1]; exact Nat.le_refl _) _, by simp [H1.out.2.1]⟩
  have kc := fun (w : World) (C : Array Value) (n c : Nat) => Lib.run_convert_bytes_const (P := Try.prog) w 35 5 C n c Try.underlying35 Try.underlying5
  go_upto_region 2 with fail
  clear kc
  generalize w1.alloc (.cells #[.int .u8 82, .int .u8 76, .int .u8 81, .int .u8 49] 5 (4, 5)) = w2 at H2 ⊢
  generalize w1.heap.size = g1 at H2 ⊢
  have HL : Box (∀ x, Below (S + 1) w1 x → Lay x S b i t d) := ⟨fun x hx => (hx.block S (by omega)).trans H1.out.1⟩
  have k2 := (HL.out _ H2.out.2.1).cells.1
  have W1 : IntKind.u64.wrap b = b := by rw [IntKind.wrap_u64]; omega
  have W2 : IntKind.u64.wrap i = i := by rw [IntKind.wrap_u64]; omega
  go_upto_region 3 with (first
    | (go_at_call 19; (try rw [W1]); refine Calls.mono (put4 b w2 hb.1 hb.2) ?_; rintro e w3 ⟨g3, rfl, hB3, hb3⟩; have H3 : Box (Bytes w3 (some ⟨g1, 0, none⟩) 4 hdr ∧ Bytes w3 (some ⟨g3, 0, none⟩) 4 (bytesOf b 4) ∧ Below (S + 1) w1 w3 ∧ S + 1 ≤ w3.heap.size) := ⟨H2.out.1.below hb3, hB3, H2.out.2.1.trans (hb3.mono H2.out.2.2), Nat.le_trans H2.out.2.2 hb3.size⟩; clear hB3 hb3)
    | (at_builtin; refine wpList_appG rfl _ _ rfl (S + 1) 4 4 4 hdr (bytesOf b 4) ⟨g1, 0, none⟩ ⟨g3, 0, none⟩ w1 rfl rfl H3.out.1 H3.out.2.1 (by omega) (by omega) H3.out.2.2.1 H3.out.2.2.2 ?_; intro v4 w4 h4; have H4 : Box (Pu w1 w4 (S + 1) v4 8 (hdr ++ bytesOf b 4)) := h4; clear h4 H3))
  clear k2 H2
  have k4 := (HL.out _ H4.out.2.1).cells.2.1
  go_upto_region 4 with (first
    | (go_at_call 19; (try rw [W2]); refine Calls.mono (put4 i w4 hi.1 (by omega)) ?_; rintro e w5 ⟨g5, rfl, hB5, hb5⟩; have H5 : Box (Pu w1 w5 (S + 1) v4 8 (hdr ++ bytesOf b 4)) := ⟨H4.out.below hb5⟩)
    | (at_builtin; refine wpList_app rfl _ _ rfl (S + 1) 8 4 4 _ (hdr ++ bytesOf b 4) (bytesOf i 4) (some ⟨g5, 0, none⟩) w5 rfl rfl H5.out.1 hB5 (by omega) (Below.refl _ _) H5.out.2.2 ?_; intro v6 w6 h6; have H6 : Box (Pu w1 w6 (S + 1) v6 12 (hdr ++ bytesOf b 4 ++ bytesOf i 4)) := ⟨H5.out.app h6⟩; clear h6 hB5 hb5 H5))
  clear k4 H4
  obtain ⟨a6, c6, rfl⟩ := own_form H6.out.1
  have H7 : Box (Bytes w6 a6 12 (hdr ++ bytesOf b 4 ++ bytesOf i 4)) := ⟨own_bytes H6.out.1 (byt_pre b i)⟩
  have HB : Box (Below w.heap.size w w6) := ⟨by rw [HS.out]; exact H1.out.2.2.trans (H6.out.2.1.mono (by omega))⟩
  go_wp2_with (go_at_call 20; refine Calls.mono (pad160 a6 c6 w6 _ H7.out) ?_; rintro e w7 ⟨g7, rfl, hO⟩)
  go_ret
  have hs := HB.out.size
  exact ⟨g7, rfl, ⟨hO.1, by
    refine ⟨hO.2.1.1, ?_⟩
    rcases hO.2.1.2 with h3 | ⟨g, cap', cur, h3, hb', r⟩
    · exact .inl h3
    · exact .inr ⟨g, cap', cur, h3, by omega, r⟩, below_to HB.out hO.2.2⟩⟩
end Go.Proofs.Ytniminalkjhfbaa
