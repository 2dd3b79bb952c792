/-
 Bytes under the stream twice; a block of noughts, reckoned by the kernel; strings of bytes. And what follows it.
-/
import Derived.Laws.BytesArg
import Derived.Test.YthfobaeafapbnaaDoorQ18
import Derived.Deep.OwnRows
import Derived.Laws.IdiomStrings
import Derived.Laws.Strings2
import Derived.Maps.AppendAt
import Derived.OpenShut
import Derived.Deep.Cut
import Derived.Test.YthfobaeafapbnaaDoorQ01
set_option linter.unusedVariables false
set_option maxRecDepth 100000
namespace Go.Proofs.YthfobaeafapbnaaDoor.Seal.Plain
end Go.Proofs.YthfobaeafapbnaaDoor.Seal.Plain
namespace Go.Proofs.YthfobaeafapbnaaDoor.Seal
open Go.RowKit Go.Proofs.YthfobaeafapbnaaDoor.Plain Go.Proofs.YthfobaeafapbnaaDoor.Seal.Plain
theorem conv_zero (w : World) (a : Option Addr) (c : Nat) : (convert 63 9 (.slice a 0 c)).run Tryd.prog w = .ok (.string ByteArray.empty) w := by
 rw [run_convert_bytes_string w 63 9 5 a 0 c Tryd.underlying63 Tryd.underlying5 Tryd.underlying9]
 cases a with
 | none => simp [Conv.bytesToString]
 | some a =>
  rw [run_bytesToString w a 0 c [] (by simp [loadCells, loadCellsFrom])]
  rfl
theorem str_nil : strOfNums [] = ByteArray.empty := rfl
theorem conv_bytes {w : World} {a : Option Addr} {len : Nat} {L : List Int} (h : Bytes w a len L) (cap : Nat) : (convert 63 9 (.slice a len cap)).run Tryd.prog w = .ok (.string (strOfNums L)) w := by
 by_cases h0 : len = 0
 ·subst h0
  obtain rfl : L = [] := List.eq_nil_of_length_eq_zero h.1
  rw [str_nil]
  exact conv_zero w a cap
 ·obtain ⟨b, off, rfl, _, hc⟩ := h.2.2 (by omega)
  exact run_convert_bytes_arg w 63 5 Tryd.underlying63 Tryd.underlying5 b off len cap L h.1 hc 9 Tryd.underlying9
theorem wpList_new8 {ops : Array Oper} {rest : List Oper} {o : Oper} {a : Act} {v : World} {Q : Exit -> Act -> World -> Prop} (t : TypeId) (n : Nat) (ht : (Tryd.prog.info? t).map (·.size) = some n) (w : World) (X : List Int) (hX : X.length = n) (old : Array Value) (hold : old.size = n) (hgd : o.guard = none) (x y : Operand) (ho : o.op = .store t x y)
  (hx : a.eval x = .pointer (some ⟨w.heap.size, 0, none⟩)) (hy : a.eval y = .agg (u8s X)) (hv : v = w.alloc (.cells old t))
  (h : ∀ z, z.heap[w.heap.size]? = some (.cells (u8s X) t (0, 0)) -> Below w.heap.size w z -> wpList Tryd.prog ops Q rest (a.put o.dst undef) z) : wpList Tryd.prog ops Q (o :: rest) a v := by
 subst hv
 have hs : (u8s X).size = n := by rw [size_u8s, hX]
 exact wpList_store_row hgd t x y ho w.heap.size (u8s X) hx hy t old (al_at rfl) (by rw [hs]; exact ht) (by rw [hs]; exact hold) (all_u8s X)
  (h _ (setRow_heap _ _ _ _ _ _ (al_at rfl)) (below_setRow ((Below.refl _ _).alloc (Nat.le_refl _) _) (Nat.le_refl _) _))
theorem size64 : (Tryd.prog.info? 142).map (·.size) = some 64 := by kernel_rfl
theorem wpList_put64 {ops : Array Oper} {rest : List Oper} {o : Oper} {a : Act} {Q : Exit -> Act -> World -> Prop} (w : World) (X : List Int) (hX : X.length = 64) (hgd : o.guard = none) (x y : Operand) (ho : o.op = .store 142 x y)
  (hx : a.eval x = .pointer (some ⟨w.heap.size, 0, none⟩)) (hy : a.eval y = .agg (u8s X)) (old : Array Value) (hold : old.size = 64)
  (h : ∀ z, z.heap[w.heap.size]? = some (.cells (u8s X) 142 (0, 0)) -> Below w.heap.size w z -> wpList Tryd.prog ops Q rest (a.put o.dst undef) z) : wpList Tryd.prog ops Q (o :: rest) a (w.alloc (.cells old 142)) :=
 wpList_new8 142 64 size64 w X hX old hold hgd x y ho hx hy rfl h
theorem size32 : (Tryd.prog.info? 23).map (·.size) = some 32 := by kernel_rfl
theorem row_on {w z : World} {g : Nat} {o : Obj} (h : w.heap[g]? = some o) (hb : Below w.heap.size w z) : z.heap[g]? = some o := (hb.block _ (Array.getElem?_eq_some_iff.1 h).1).trans h
end Go.Proofs.YthfobaeafapbnaaDoor.Seal
namespace Go.Proofs.YthfobaeafapbnaaDoor.Seal.Plain
end Go.Proofs.YthfobaeafapbnaaDoor.Seal.Plain
namespace Go.Proofs.YthfobaeafapbnaaDoor.Seal
open Go.RowKit Go.Proofs.YthfobaeafapbnaaDoor.Plain Go.Proofs.YthfobaeafapbnaaDoor.Seal.Plain
theorem exec_load8 {o : Oper} {a : Act} {w' : World} (t : TypeId) (n : Nat) (hu : Tryd.prog.underlying t = some (.array n 5)) (ht : (Tryd.prog.info? t).map (·.size) = some n) (x : Operand) (ho : o.op = .load t x) (g : Nat) (hx : a.eval x = .pointer (some ⟨g, 0, none⟩)) (X : List Int) (hX : X.length = n) (hg : w'.heap[g]? = some (.cells (u8s X) t (0, 0))) :
  (execOp a.eval o).run Tryd.prog w' = .ok (.value (.agg (u8s X))) w' := by
 have hs : (u8s X).size = n := by rw [size_u8s, hX]
 unfold execOp
 simp only [ho, hx, Instr.loadAt, Instr.sureAddr, Sem.run_bind, Sem.run_pure, Result.andThen_ok, run_loadVar_row w' g t t (u8s X) (0, 0) _ hg hu rfl (by rw [hs]; exact ht)]
theorem str_size (L : List Int) : (strOfNums L).size = L.length := by
 show (strOfNums L).data.size = L.length
 simp [strOfNums]
def Tw (w x : World) (S : Nat) (K N : List Int) : Prop := x.heap[S]? = some (.cells (u8s K) 23 (0, 0)) /\ x.heap[S + 1]? = some (.cells (u8s N) 150 (0, 0)) /\ Below w.heap.size w x
theorem Tw.on {w x y : World} {S : Nat} {K N : List Int} (h : Tw w x S K N) (hb : Below x.heap.size x y) : Tw w y S K N := ⟨row_on h.1 hb, row_on h.2.1 hb, below_to h.2.2 hb⟩
theorem run_append_none {w : World} {base n c : Nat} {v : Value} {xs : List Value} {ty : TypeId} (h : w.ownsRow base 5 1 v n xs) : (Builtin.append_ #[63, 63] ty #[v, .slice none 0 c]).run Tryd.prog w = .ok v w := by
 obtain ⟨i0, hi, hz0, hz1, hz2⟩ := info_parts Tryd.info5
 rcases h.2 with ⟨rfl, rfl⟩ | ⟨g, cap', cur, rfl, _, _, hle, _⟩
 ·simp [Builtin.append_, run_underlying Tryd.underlying63, sizeOf, typeInfo, hi, Builtin.lenOf, Builtin.firstCells]
 ·simp [Builtin.append_, run_underlying Tryd.underlying63, sizeOf, typeInfo, hi, Builtin.lenOf, Builtin.firstCells, hle, storeCells]
theorem wpList_app {ops : Array Oper} {rest : List Oper} {o : Oper} {act : Act} {w : World} {Q : Exit -> Act -> World -> Prop} (hgd : o.guard = none) (s x : Operand)
  (ho : o.op = .call { callee := .builtin .append, args := #[s, x], argTypes := #[63, 63] }) (base n m c : Nat) (v : Value) (A L : List Int) (a : Option Addr) (w0 : World)
  (hs : act.eval s = v) (hx : act.eval x = .slice a m c) (hown : w.ownsRow base 5 1 v n (A.map (Value.int .u8))) (hb : Bytes w a m L) (hl : n + m <= 140737488355328) (hbel : Below base w0 w) (hbase : base <= w.heap.size)
  (h : ∀ v' w', Box (w'.ownsRow base 5 1 v' (n + m) ((A ++ L).map (Value.int .u8)) /\ Below base w0 w' /\ base <= w'.heap.size) -> wpList Tryd.prog ops Q rest (act.put o.dst v') w') : wpList Tryd.prog ops Q (o :: rest) act w := by
 obtain ⟨i0, hi, hz0, hz1, hz2⟩ := info_parts Tryd.info5
 cases a with
 | none =>
  have hm : m = 0 := by
   by_cases hm : m = 0
   ·exact hm
   ·obtain ⟨_, _, he, _⟩ := hb.2.2 (by omega)
    cases he
  subst hm
  obtain rfl : L = [] := List.eq_nil_of_length_eq_zero hb.1
  refine wpList_plain hgd fun _ hK => ?_
  unfold Oper.wp execOp
  simp only [ho, resolve, invoke, builtin, Sem.run_bind, Sem.run_pure, Result.andThen_ok, List.map_toArray, List.map_cons, List.map_nil, hs, hx, run_append_none hown]
  exact hK _ _ (h v w ⟨by simpa using hown, hbel, hbase⟩)
 | some ad =>
  refine wpList_append_own w hgd s x 63 ho base 5 i0 (.int .u8 0) 1 1 Tryd.underlying63 hi hz0 hz1 hz2 rfl (by decide) v n _ hs hown ad m c (L.map (Value.int .u8)) hx (by simp [hb.1]) (hb.news) (ints_oneCell _ _) (by unfold maxLen; omega) (by omega) hbase ?_
  intro v' w' h1 h2 _
  have := h2.size
  exact h v' w' ⟨by rw [List.map_append]; exact h1, hbel.grown h2 hbase (own_block_le hown), by omega⟩
set_option maxHeartbeats 400000 in
theorem pad_ok (a : Option Addr) (len cap : Nat) (L : List Int) (n : Nat) (w : World) (hb : Bytes w a len L) (h1 : 1 <= n) (h2 : n <= 2147483648) :
  Calls Tryd.prog 74 #[.slice a len cap, .int .i64 n] w fun e w' => ∃ g, e = .returned (.slice (some ⟨g, 0, none⟩) n n) /\ Out w w' (some ⟨g, 0, none⟩) n n (padTo L n) := by
 obtain ⟨i0, hi, hz0, hz1, hz2⟩ := info_parts Tryd.info5
 have hlm : n <= maxLen := by unfold maxLen; omega
 have hLl := hb.1
 have hn1 : ¬ (n : Int) < 1 := by omega
 have hn2 : ¬ (2147483648 : Int) < (n : Int) := by omega
 go_enter Tryd.func74, Tryd.ntmps74
 go_wp2_with (first | (at_make; refine wpList_make_full _ rfl (.tmp 13) (.tmp 13) 63 rfl _ 5 i0 (.int .u8 0) 1 Tryd.underlying63 hi hz0 hz1 _ _ _ _ n rfl rfl rfl rfl (by rw [hz2]; omega) hlm (Nat.le_refl _) ?_; intro w1 hown hgrow; have HR := made_row hown; clear hown; have hbl := (Below.refl w.heap.size w).grown hgrow (Nat.le_refl _) (by simp); have hb1 := hb.below hbl) | (refine wpList_copy_splice rfl (.tmp 15) (.tmp 16) 63 63 rfl 5 Tryd.underlying63 size5 _ _ _ _ _ _ rfl rfl w.heap.size 0 _ 5 HR ((L.take n).map (Value.int .u8)) (length_cut L n len hLl) (fun h => ⟨rfl, hb1.src_take n (pos_cut L n len hLl h)⟩) (fit_cut L n) (ints_oneCell _ _) w.heap.size w hbl (Nat.le_refl _) ?_; intro w2 HG2 hB2))
 have HG := HG2.out
 rw [splice_pad L n] at HG
 clear HR hgrow HG2 hb1 hb
 go_ret
 exact ⟨_, rfl, Out.of_row (length_padTo L n) hlm (Nat.le_refl _) HG hB2⟩
theorem str_data (L : List Int) : (strOfNums L).data = (L.map fun n => UInt8.ofNat n.toNat).toArray := rfl
theorem conv_str (w : World) (L : List Int) (hL : Byt L) : ∃ c w', (convert 9 63 (.string (strOfNums L))).run Tryd.prog w = .ok (.slice (some ⟨w.heap.size, 0, none⟩) L.length c) w' /\ Bytes w' (some ⟨w.heap.size, 0, none⟩) L.length L /\ Below w.heap.size w w' := by
 have h := run_bytes_of_string (P := Tryd.prog) w 9 63 5 (strOfNums L) Tryd.underlying9 Tryd.underlying63 Tryd.underlying5
 rw [str_size] at h
 refine ⟨_, _, h, ⟨rfl, hL, fun hp => ⟨w.heap.size, 0, rfl, by simp, fun i hi => ?_⟩⟩, ((Below.refl _ _).drew).alloc (Nat.le_refl _) _⟩
 have ha : (w.drew.alloc (.cells (bytesRow (strOfNums L) (grownCap w L.length 0 5)) 5 ((bytesRow (strOfNums L) (grownCap w L.length 0 5)).size, (bytesRow (strOfNums L) (grownCap w L.length 0 5)).size + 1))).heap[w.heap.size]? = some (.cells (bytesRow (strOfNums L) (grownCap w L.length 0 5)) 5 ((bytesRow (strOfNums L) (grownCap w L.length 0 5)).size, (bytesRow (strOfNums L) (grownCap w L.length 0 5)).size + 1)) := al_at rfl
 rw [cell_of_row _ _ _ _ _ _ ha, Nat.zero_add]
 have hb := hL i
 have hg : L.getD i 0 = L[i] := by simp [List.getD, hi]
 rw [hg] at hb ⊢
 unfold bytesRow
 rw [Array.getElem?_append_left (by simp [str_data]; exact hi)]
 simp [str_data, hi]
 omega
end Go.Proofs.YthfobaeafapbnaaDoor.Seal
namespace Go.Proofs.YthfobaeafapbnaaDoor.Seal.Plain
end Go.Proofs.YthfobaeafapbnaaDoor.Seal.Plain
namespace Go.Proofs.YthfobaeafapbnaaDoor.Seal
open Go.RowKit Go.Proofs.YthfobaeafapbnaaDoor.Plain Go.Proofs.YthfobaeafapbnaaDoor.Seal.Plain
theorem sfits_yes (n : Int) (w : World) (h : n = 160 ∨ n = 176) : Calls Tryd.prog 72 #[.int .i64 n] w fun e w' => e = .returned (.bool true) /\ w = w' := by
 rcases h with rfl | rfl
 all_goals
  go_enter Tryd.func72, Tryd.ntmps72
  go_wp2
  go_ret
  exact ⟨rfl, rfl⟩
set_option maxRecDepth 20000 in
set_option maxHeartbeats 1000000 in
theorem scrypt_in (K X B : List Int) (p v : Int) (a : Option Addr) (len cap : Nat) (w : World) (hKl : K.length = 32)
  (C1 : Box (∀ x, Calls Tryd.prog 81 #[.int .u32 p, .int .u64 v] x fun e w' => e = .returned (.agg (u8s X)) /\ Below x.heap.size x w'))
  (C2 : Box (∀ x, Below w.heap.size w x -> Calls Tryd.prog 80 #[.agg (u8s K), .int .u32 0, .agg (u8s X), .slice a len cap] x fun e w' => ∃ a', e = .returned (.tuple #[.slice a' len len, .int .i64 0]) /\ Bytes w' a' len (cr K 0 X B len) /\ Below x.heap.size x w')) :
  Calls Tryd.prog 73 #[.agg (u8s K), .int .u32 p, .int .u64 v, .slice a len cap] w fun e w' => ∃ a', e = .returned (.slice a' len len) /\ Bytes w' a' len (cr K 0 X B len) /\ Below w.heap.size w w' := by
 obtain ⟨S, hS⟩ : ∃ S, w.heap.size = S := ⟨_, rfl⟩
 have HS : Hid (w.heap.size = S) := hS
 have H0 : Box ((w.alloc (.cells (u8s K) 23)).heap[S]? = some (.cells (u8s K) 23 (0, 0)) /\ Below w.heap.size w (w.alloc (.cells (u8s K) 23))) := ⟨al_at hS, (Below.refl _ _).alloc (Nat.le_refl _) _⟩
 clear hS
 go_enter Tryd.func73, Tryd.ntmps73
 go_upto_region 1 with fail
 rw [HS.out]
 generalize w.alloc (.cells (u8s K) 23) = x0 at H0 ⊢
 refine Seq.begin_any (by kernel_rfl) (fun wd hd => ?_)
 refine Seq.take_lx (i := 0) (v := .agg (u8s K)) rfl (fun w' hLat => exec_load8 23 32 Tryd.underlying23 size32 (.tmp 4) rfl S rfl K hKl (row_on (row_on H0.out.1 hd) hLat)) ?_
 try simp only [Act.put, pC, pD, pE, pF, pG]
 refine Seq.take_lx (i := 1) (v := ?_) rfl ?_ ?_
 rotate_left
 ·rintro w' -; go_simp <;> with_reducible rfl
 try simp only [Act.put, pC, pD, pE, pF, pG, pH]
 refine Seq.take_lx (i := 2) (v := ?_) rfl ?_ ?_
 rotate_left
 ·rintro w' -; go_simp <;> with_reducible rfl
 try simp only [Act.put, pC, pD, pE, pF, pG, pH]
 refine Seq.take_lx (i := 4) (v := ?_) rfl ?_ ?_
 rotate_left
 ·rintro w' -; go_simp <;> with_reducible rfl
 try simp only [Act.put, pC, pD, pE, pF, pG, pH]
 refine Seq.only_lat (i := 3) rfl (by kernel_rfl) (fun KK hK => ?_)
 rw [if_pos (by rfl)]
 go_simp
 refine Calls.mono (C1.out wd) ?_
 rintro e w2 ⟨rfl, hb2⟩
 have H2 : Box (Below w.heap.size w w2) := ⟨below_to (below_to H0.out.2 hd) hb2⟩
 refine hK.out _ _ hb2 ?_
 clear hb2
 clear hK KK
 try simp only [Act.put, pC, pD, pE, pF, pG, pH]
 refine Seq.only_lat (i := 5) rfl (by kernel_rfl) (fun KK hK => ?_)
 rw [if_pos (by rfl)]
 go_simp
 refine Calls.mono (C2.out w2 H2.out) ?_
 rintro e w3 ⟨a3, rfl, hB3, hb3⟩
 have H3 : Box (Bytes w3 a3 len (cr K 0 X B len) /\ Below w.heap.size w w3) := ⟨hB3, below_to H2.out hb3⟩
 refine hK.out _ _ hb3 ?_
 clear hb3 hB3
 clear hK KK
 try simp only [Act.put, pC, pD, pE, pF, pG, pH]
 refine Seq.take_lx (i := 6) (v := ?_) rfl ?_ ?_
 rotate_left
 ·rintro w' -; go_simp <;> with_reducible rfl
 try simp only [Act.put, pC, pD, pE, pF, pG, pH]
 refine Seq.take_lx (i := 7) (v := ?_) rfl ?_ ?_
 rotate_left
 ·rintro w' -; go_simp <;> with_reducible rfl
 try simp only [Act.put, pC, pD, pE, pF, pG, pH]
 refine Seq.take_lx (i := 8) (v := ?_) rfl ?_ ?_
 rotate_left
 ·rintro w' -; go_simp <;> with_reducible rfl
 try simp only [Act.put, pC, pD, pE, pF, pG, pH]
 refine Seq.take_lx (i := 9) (v := ?_) rfl ?_ ?_
 rotate_left
 ·rintro w' -; go_simp <;> with_reducible rfl
 try simp only [Act.put, pC, pD, pE, pF, pG, pH]
 refine Seq.take_lx (i := 10) (v := ?_) rfl ?_ ?_
 rotate_left
 ·rintro w' -; go_simp <;> with_reducible rfl
 try simp only [Act.put, pC, pD, pE, pF, pG, pH]
 refine wpAnyH_done (by kernel_rfl) ?_ _
 go_wp2
 go_ret
 exact ⟨a3, rfl, H3.out.1, H3.out.2⟩
theorem scrypt_any (K B : List Int) (p v : Int) (a : Option Addr) (len cap : Nat) (w : World) (hT : Tab w) (hKl : K.length = 32) (hKb : Byt K) (hp : W32 p) (hv : 0 <= v /\ v <= 18446744073709551615) (hB : Bytes w a len B) (hl : len <= 1000) :
  Calls Tryd.prog 73 #[.agg (u8s K), .int .u32 p, .int .u64 v, .slice a len cap] w fun e w' => ∃ a', e = .returned (.slice a' len len) /\ Bytes w' a' len (cr K 0 (non p v) B len) /\ Below w.heap.size w w' :=
 scrypt_in K (non p v) B p v a len cap w hKl ⟨fun x => nonce_any p v x hp hv⟩ ⟨fun x hx => crypt_ok a len cap K (non p v) B 0 x hKb hKl (byt_non p v) (length_non p v) ⟨by omega, by omega⟩ (hT.below hx) (hB.below hx) (by omega) (by omega)⟩
def sl (K : List Int) (p v : Int) (B : List Int) : List Int := padTo (bytesOf v 8 ++ cr K 0 (non p v) B B.length) 192
theorem length_sl (K : List Int) (p v : Int) (B : List Int) : (sl K p v B).length = 192 := length_padTo _ _
theorem byt_padTo (L : List Int) (n : Nat) (h : Byt L) : Byt (padTo L n) := byt_app _ _ (byt_take L n h) (byt_zeros _)
theorem byt_sl (K : List Int) (p v : Int) (B : List Int) : Byt (sl K p v B) := byt_padTo _ _ (byt_app _ _ (bytesOf_bd v 8) (byt_cr _ _ _ _ _))
theorem out_low {w0 w w' : World} {a : Option Addr} {n c : Nat} {L : List Int} (h : Out w w' a n c L) (hb : Below w0.heap.size w0 w) : Out w0 w' a n c L := by
 refine ⟨h.1, ⟨h.2.1.1, ?_⟩, hb.trans (h.2.2.mono hb.size)⟩
 rcases h.2.1.2 with h3 | ⟨g, cap', cur, h3, hb', r⟩
 ·exact .inl h3
 ·exact .inr ⟨g, cap', cur, h3, Nat.le_trans hb.size hb', r⟩
set_option maxRecDepth 20000 in
set_option maxHeartbeats 2000000 in
theorem seal_in (K C : List Int) (p v : Int) (a : Option Addr) (len cap : Nat) (w : World) (hKl : K.length = 32) (hC : Byt C) (hl : len <= 184) (hv0 : ¬ v = 0) (hv1 : ¬ v = 18446744073709551615) (hv : 0 <= v /\ v <= 18446744073709551615)
  (HF : Box (∀ x, Calls Tryd.prog 72 #[.int .i64 (len : Int)] x fun e w' => e = .returned (.bool true) /\ x = w'))
  (C1 : Box (∀ x, Below w.heap.size w x -> Calls Tryd.prog 73 #[.agg (u8s K), .int .u32 p, .int .u64 v, .slice a len cap] x fun e w' => ∃ a', e = .returned (.slice a' len len) /\ Bytes w' a' len C /\ Below x.heap.size x w')) :
  Calls Tryd.prog 56 #[.agg (u8s K), .int .u32 p, .int .u64 v, .slice a len cap] w fun e w' => ∃ g, e = .returned (.tuple #[.slice (some ⟨g, 0, none⟩) 192 192, .int .i64 0]) /\ Out w w' (some ⟨g, 0, none⟩) 192 192 (padTo (bytesOf v 8 ++ C) 192) := by
 obtain ⟨S, hS⟩ : ∃ S, w.heap.size = S := ⟨_, rfl⟩
 have HS : Hid (w.heap.size = S) := hS
 have H0 : Box ((w.alloc (.cells (u8s K) 23)).heap[S]? = some (.cells (u8s K) 23 (0, 0)) /\ Below w.heap.size w (w.alloc (.cells (u8s K) 23))) := ⟨al_at hS, (Below.refl _ _).alloc (Nat.le_refl _) _⟩
 have g0 : (v == 0) = false := by simpa using hv0
 have g1 : (v == 18446744073709551615) = false := by simpa using hv1
 have C2 : Box (∀ x, Calls Tryd.prog 42 #[.int .u64 v, .int .i64 8] x fun e w' => ∃ g, e = .returned (.slice (some ⟨g, 0, none⟩) 8 8) /\ Out x w' (some ⟨g, 0, none⟩) 8 8 (bytesOf v 8)) := ⟨fun x => put_ok v 8 x hv.1 hv.2 (by omega) (by omega)⟩
 have C3 : Box (∀ x a c, Bytes x a (8 + len) (bytesOf v 8 ++ C) -> Calls Tryd.prog 74 #[.slice a (8 + len) c, .int .i64 192] x fun e w' => ∃ g, e = .returned (.slice (some ⟨g, 0, none⟩) 192 192) /\ Out x w' (some ⟨g, 0, none⟩) 192 192 (padTo (bytesOf v 8 ++ C) 192)) := ⟨fun x a c hx => pad_ok a (8 + len) c _ 192 x hx (by omega) (by omega)⟩
 have HC : Box (Byt (bytesOf v 8 ++ C)) := ⟨byt_app _ _ (bytesOf_bd v 8) hC⟩
 clear hS hv hC hv0 hv1
 go_enter Tryd.func56, Tryd.ntmps56
 go_upto_region 1 with fail
 rw [HS.out]
 generalize w.alloc (.cells (u8s K) 23) = x0 at H0 ⊢
 go_wp2_with (first
  | (go_at_call 74; refine (C3.out w4 a4 c4 (own_bytes H4.out.1 HC.out)).mono ?_; rintro e w5 ⟨g5, rfl, ho⟩; have H5 : Box (Out w w5 (some ⟨g5, 0, none⟩) 192 192 (padTo (bytesOf v 8 ++ C) 192)) := ⟨out_low ho H4.out.2⟩; clear ho)
  | (refine wpList_app rfl (.tmp 27) (.tmp 28) rfl w2.heap.size 8 len len _ (bytesOf v 8) C a2 w2 rfl rfl H3.out.1 H3.out.2.1 (by omega) H3.out.2.2.1 H3.out.2.2.1.size ?_; intro v4 w4 HV; obtain ⟨a4, c4, hv4⟩ := own_form HV.out.1; subst hv4; have H4 : Box (w4.ownsRow w2.heap.size 5 1 (.slice a4 (8 + len) c4) (8 + len) ((bytesOf v 8 ++ C).map (Value.int .u8)) /\ Below w.heap.size w w4) := ⟨HV.out.1, H2.out.2.trans (HV.out.2.1.mono H2.out.2.size)⟩; clear HV)
  | (go_at_call 42; refine (C2.out w2).mono ?_; rintro e w3 ⟨g3, rfl, ho⟩; have H3 : Box (w3.ownsRow w2.heap.size 5 1 (.slice (some ⟨g3, 0, none⟩) 8 8) 8 ((bytesOf v 8).map (Value.int .u8)) /\ Bytes w3 a2 len C /\ Below w2.heap.size w2 w3 /\ Below w.heap.size w w3) := ⟨ho.2.1, H2.out.1.below ho.2.2, ho.2.2, below_to H2.out.2 ho.2.2⟩; clear ho)
  | (go_at_call 73; refine Calls.mono (C1.out x0 H0.out.2) ?_; rintro e w2 ⟨a2, rfl, hB, hb⟩; have H2 : Box (Bytes w2 a2 len C /\ Below w.heap.size w w2) := ⟨hB, below_to H0.out.2 hb⟩; clear hB hb)
  | (refine wpList_seeKey S K hKl H0.out.1 rfl (.tmp 4) rfl rfl ?_)
  | (go_at_call 72; refine (HF.out _).mono ?_; rintro e w' ⟨rfl, rfl⟩))
 go_ret2
 exact ⟨g5, rfl, H5.out⟩
theorem seal_ok (K B : List Int) (p v : Int) (a : Option Addr) (len cap : Nat) (w : World) (hT : Tab w) (hKl : K.length = 32) (hKb : Byt K) (hp : W32 p) (hv0 : ¬ v = 0) (hv1 : ¬ v = 18446744073709551615) (hv : 0 <= v /\ v <= 18446744073709551615) (hB : Bytes w a len B) (hl : len = 160 ∨ len = 176) :
  Calls Tryd.prog 56 #[.agg (u8s K), .int .u32 p, .int .u64 v, .slice a len cap] w fun e w' => ∃ g, e = .returned (.tuple #[.slice (some ⟨g, 0, none⟩) 192 192, .int .i64 0]) /\ Out w w' (some ⟨g, 0, none⟩) 192 192 (sl K p v B) := by
 unfold sl
 rw [hB.1]
 exact seal_in K _ p v a len cap w hKl (byt_cr _ _ _ _ _) (by omega) hv0 hv1 hv ⟨fun x => sfits_yes _ x (by omega)⟩ ⟨fun x hx => scrypt_any K B p v a len cap x (hT.below hx) hKl hKb hp hv (hB.below hx) (by omega)⟩
end Go.Proofs.YthfobaeafapbnaaDoor.Seal
