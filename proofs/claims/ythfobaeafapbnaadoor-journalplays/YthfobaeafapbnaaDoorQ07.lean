/-
 Rows of bytes of a call's own: appended to, read, kept; nothing of the program is said here but the types' numbers. And what follows it.
-/
import Derived.Laws.AppendOwn
import Derived.OwnWalk
import Derived.Maps.AppendAt
import Derived.Test.YthfobaeafapbnaaDoorQ05
import Derived.Test.YthfobaeafapbnaaDoorQ06
set_option linter.unusedVariables false
set_option maxRecDepth 100000
namespace Go.Proofs.YthfobaeafapbnaaDoor.Dig
open Go.RowKit Go.Proofs.YthfobaeafapbnaaDoor.Dig.Plain
theorem own_form {w : World} {base n : Nat} {v : Value} {xs : List Value} (h : w.ownsRow base 5 1 v n xs) : ∃ a cap, v = .slice a n cap := by
 rcases h.2 with ⟨rfl, rfl⟩ | ⟨g, cap', cur, rfl, _⟩
 ·exact ⟨_, _, rfl⟩
 ·exact ⟨_, _, rfl⟩
theorem own_bytes {w : World} {base n cap : Nat} {a : Option Addr} {L : List Int} (h : w.ownsRow base 5 1 (.slice a n cap) n (L.map (Value.int .u8))) (hL : Byt L) : Bytes w a n L := by
 have hn : L.length = n := by simpa using h.1
 refine ⟨hn, hL, fun hp => ?_⟩
 rcases h.2 with ⟨_, h3⟩ | ⟨g, cap', cur, h3, _, hh, _, _, _, _⟩
 ·omega
 ·simp only [Value.slice.injEq, true_and] at h3
  obtain ⟨rfl, rfl⟩ := h3
  refine ⟨g, 0, rfl, (Array.getElem?_eq_some_iff.1 hh).1, fun i hi => ?_⟩
  rw [Nat.zero_add, h.cellAt i (by omega)]
  have hi' : i < L.length := by rw [hn]; exact hi
  simp [hi']
theorem own_block_le {w : World} {base n : Nat} {v : Value} {xs : List Value} (h : w.ownsRow base 5 1 v n xs) : ∀ k, v.ownBlock = some k -> base <= k := fun k hk => (h.lt k hk).1
theorem oneCell_int (z : Int) : ∀ u ∈ [Value.int .u8 z], u.oneCell' = true := by
 intro u hu
 simp at hu
 subst hu
 rfl
theorem bytes_news {w : World} {ad : Addr} {len : Nat} {L : List Int} (h : Bytes w (some ad) len L) : ∀ j u, (L.map (Value.int .u8))[j]? = some u -> w.cell? (ad.add j) = some u := by
 intro j u hj
 have hlt : j < L.length := by simpa using (List.getElem?_eq_some_iff.1 hj).1
 obtain ⟨b, off, he, _, hc⟩ := h.2.2 (by rw [<- h.1]; omega)
 simp only [Option.some.injEq] at he
 subst he
 rw [Addr.add_lit, hc j (by rw [<- h.1]; exact hlt), <- hj]
 simp [hlt]
theorem run_append_none {w : World} {base n c : Nat} {v : Value} {xs : List Value} {ty : TypeId} (h : w.ownsRow base 5 1 v n xs) : (Builtin.append_ #[63, 63] ty #[v, .slice none 0 c]).run Tryd.prog w = .ok v w := by
 obtain ⟨i0, hi, hz0, hz1, hz2⟩ := info_parts info5
 rcases h.2 with ⟨rfl, rfl⟩ | ⟨g, cap', cur, rfl, _, _, hle, _⟩
 ·simp [Builtin.append_, run_underlying Tryd.underlying63, sizeOf, typeInfo, hi, Builtin.lenOf, Builtin.firstCells]
 ·simp [Builtin.append_, run_underlying Tryd.underlying63, sizeOf, typeInfo, hi, Builtin.lenOf, Builtin.firstCells, hle, storeCells]
theorem wpList_app {ops : Array Oper} {rest : List Oper} {o : Oper} {act : Act} {w : World} {Q : Exit -> Act -> World -> Prop} (hgd : o.guard = none) (s x : Operand)
  (ho : o.op = .call { callee := .builtin .append, args := #[s, x], argTypes := #[63, 63] }) (base n m c : Nat) (v : Value) (A L : List Int) (a : Option Addr) (w0 : World)
  (hs : act.eval s = v) (hx : act.eval x = .slice a m c) (hown : w.ownsRow base 5 1 v n (A.map (Value.int .u8))) (hb : Bytes w a m L) (hl : n + m <= 140737488355328) (hbel : Below base w0 w) (hbase : base <= w.heap.size)
  (h : ∀ v' w', Box (w'.ownsRow base 5 1 v' (n + m) ((A ++ L).map (Value.int .u8)) /\ Below base w0 w' /\ base <= w'.heap.size) -> wpList Tryd.prog ops Q rest (act.put o.dst v') w') : wpList Tryd.prog ops Q (o :: rest) act w := by
 obtain ⟨i0, hi, hz0, hz1, hz2⟩ := info_parts info5
 cases a with
 | none =>
  have hm : m = 0 := by
   by_cases hm : m = 0
   ·exact hm
   ·obtain ⟨_, _, he, _⟩ := hb.2.2 (by omega)
    cases he
  subst hm
  obtain rfl : L = [] := List.eq_nil_of_length_eq_zero hb.1
  refine wpList_plain hgd fun _ hK => ?_
  unfold Oper.wp execOp
  simp only [ho, resolve, invoke, builtin, Sem.run_bind, Sem.run_pure, Result.andThen_ok, List.map_toArray, List.map_cons, List.map_nil, hs, hx, run_append_none hown]
  exact hK _ _ (h v w ⟨by simpa using hown, hbel, hbase⟩)
 | some ad =>
  refine wpList_append_own w hgd s x 63 ho base 5 i0 (.int .u8 0) 1 1 Tryd.underlying63 hi hz0 hz1 hz2 rfl (by decide) v n _ hs hown ad m c (L.map (Value.int .u8)) hx (by simp [hb.1]) (bytes_news hb) (ints_oneCell _ _) (by unfold maxLen; omega) (by omega) hbase ?_
  intro v' w' h1 h2 _
  have := h2.size
  exact h v' w' ⟨by rw [List.map_append]; exact h1, hbel.grown h2 hbase (own_block_le hown), by omega⟩
theorem wpList_app1 {ops : Array Oper} {rest : List Oper} {o : Oper} {act : Act} {w : World} {Q : Exit -> Act -> World -> Prop} (hgd : o.guard = none) (s x : Operand)
  (ho : o.op = .call { callee := .builtin .append, args := #[s, x], argTypes := #[63, 63] }) (base n : Nat) (v : Value) (A : List Int) (z : Int) (w0 : World)
  (hs : act.eval s = v) (hx : act.eval x = .slice (some ⟨w.heap.size, 0, none⟩) 1 1) (hown : w.ownsRow base 5 1 v n (A.map (Value.int .u8))) (hl : n + 1 <= 140737488355328) (hbel : Below base w0 w) (hbase : base <= w.heap.size)
  (h : ∀ v' w', Box (w'.ownsRow base 5 1 v' (n + 1) ((A ++ [z]).map (Value.int .u8)) /\ Below base w0 w' /\ base <= w'.heap.size) -> wpList Tryd.prog ops Q rest (act.put o.dst v') w') : wpList Tryd.prog ops Q (o :: rest) act (w.alloc (.cells #[.int .u8 z] 5)) := by
 obtain ⟨i0, hi, hz0, hz1, hz2⟩ := info_parts info5
 refine wpList_append_own _ hgd s x 63 ho base 5 i0 (.int .u8 0) 1 1 Tryd.underlying63 hi hz0 hz1 hz2 rfl (by decide) v n _ hs (hown.alloc _) _ 1 1 [.int .u8 z] hx rfl (cell_one_new _ _ _) (oneCell_int z) (by unfold maxLen; omega) (by omega) (by simp; omega) ?_
 intro v' w' h1 h2 _
 have := h2.size
 simp at this
 exact h v' w' ⟨by rw [List.map_append]; exact h1, (hbel.alloc hbase _).grown h2 (by simp; omega) (own_block_le hown), by omega⟩
def slen : Value -> Nat
 | .slice _ n _ => n
 | _ => 0
def hiT (x : Int) (i : Nat) : List Int := (lo x 8).take i
theorem hiT_succ (x : Int) (i : Nat) (h : i < 8) : hiT x (i + 1) = hiT x i ++ [byteAt x (7 - i)] := by
 rcases (by omega : i = 0 ∨ i = 1 ∨ i = 2 ∨ i = 3 ∨ i = 4 ∨ i = 5 ∨ i = 6 ∨ i = 7) with rfl | rfl | rfl | rfl | rfl | rfl | rfl | rfl <;> rfl
theorem pad_is (M : List Int) (z : Nat) (hz : zs M.length = z) : (M ++ 128 :: List.replicate z 0) ++ hiT (M.length * 8) 8 = M ++ padT M := by
 rw [padT, hz, tailK, hiT, List.take_of_length_le (by rw [length_lo]; omega)]
 simp
set_option maxRecDepth 20000 in
set_option maxHeartbeats 1000000 in
theorem rof_any (a : Option Addr) (len cap : Nat) (M : List Int) (w : World) (hb : Bytes w a len M) (hl : len <= 900000) :
  Calls Tryd.prog 69 #[.slice a len cap] w fun e w' => e = .returned (.agg (u8s (sha M))) /\ Below w.heap.size w w' := by
 have hML := hb.1
 have hMb := hb.2.1
 obtain ⟨S, HS⟩ : ∃ S, Hid (w.heap.size = S) := ⟨_, rfl⟩
 obtain ⟨z, HZ⟩ : ∃ z, Hid (zs len = z) := ⟨_, rfl⟩
 have hz : z = (119 - len % 64) % 64 := by rw [<- HZ.out]; rfl
 have HB0 : Box (Bytes w a len M) := ⟨hb⟩
 clear hb
 have HZ32 : Hid (fil8 [] 32 = #[.int .u8 0, .int .u8 0, .int .u8 0, .int .u8 0, .int .u8 0, .int .u8 0, .int .u8 0, .int .u8 0, .int .u8 0, .int .u8 0, .int .u8 0, .int .u8 0, .int .u8 0, .int .u8 0, .int .u8 0, .int .u8 0, .int .u8 0, .int .u8 0, .int .u8 0, .int .u8 0, .int .u8 0, .int .u8 0, .int .u8 0, .int .u8 0, .int .u8 0, .int .u8 0, .int .u8 0, .int .u8 0, .int .u8 0, .int .u8 0, .int .u8 0, .int .u8 0]) := rfl
 go_enter Tryd.func69, Tryd.ntmps69
 go_wp2_with (first
  | (at_builtin; refine wpList_app rfl (.tmp 10) (.tmp 11) rfl (w.heap.size + 1) 0 len cap (.slice none 0 0) [] M a _ rfl rfl (World.ownsRow_nil _ _ _ _) (HB0.out.below ((Below.refl _ _).alloc (Nat.le_refl _) _)) (by omega) (Below.refl _ _) (by simp) ?_; intro v1 w1 H1)
  | (at_builtin; refine wpList_app1 rfl (.tmp 13) (.tmp 14) rfl (w.heap.size + 1) (0 + len) v1 ([] ++ M) 128 _ rfl rfl H1.out.1 (by omega) H1.out.2.1 H1.out.2.2 ?_; intro v2 w2 H2))
 rw [<- HZ32.out, HS.out] at H2
 have HW0 : Box ((w.alloc (.cells (fil8 [] 32) 23)).heap[S]? = some (.cells (fil8 [] 32) 23 (0, 0)) /\ Below S w (w.alloc (.cells (fil8 [] 32) 23))) := ⟨al_at HS.out, by rw [<- HS.out]; exact (Below.refl _ _).alloc (Nat.le_refl _) _⟩
 rw [HS.out]
 have H2' : Box (w2.ownsRow (S + 1) 5 1 v2 (len + 1 + 0) ((M ++ 128 :: List.replicate 0 0).map (Value.int .u8)) /\ Below (S + 1) (w.alloc (.cells (fil8 [] 32) 23)) w2 /\ S + 1 <= w2.heap.size) := ⟨by simpa using H2.out.1, H2.out.2⟩
 generalize w.alloc (.cells (fil8 [] 32) 23) = w0 at HW0 H2'
 clear H1 H2
 go_loopw [3] (fun v wr => ∃ j : Nat, j <= z /\ Box (wr.ownsRow (S + 1) 5 1 v (len + 1 + j) ((M ++ 128 :: List.replicate j 0).map (Value.int .u8)) /\ Below (S + 1) w0 wr /\ S + 1 <= wr.heap.size)) (fun v _ => len + 1 + z - slen v)
 case atStart => exact ⟨0, Nat.zero_le _, H2'⟩
 case round =>
  clear H2'
  obtain ⟨j, hj, HB⟩ := hrel
  obtain ⟨av, cv, hv⟩ := own_form HB.out.1
  subst hv
  obtain ⟨n, HN⟩ : ∃ n, Hid (len + 1 + j = n) := ⟨_, rfl⟩
  have hn : len + 1 + j = n := HN.out
  rw [HN.out]
  rw [HN.out] at HB
  by_cases hlt : j < z
  ·have hne : ¬ (n : Int) % 64 = 56 := by omega
   have hnl : n <= 1000000 := by omega
   go_wp2_with (at_builtin; refine wpList_app1 rfl (.tmp 20) (.tmp 21) rfl (S + 1) n _ _ 0 w0 rfl rfl HB.out.1 (by omega) HB.out.2.1 HB.out.2.2 ?_; intro v3 w3 H3)
   go_roundw
   case rel =>
    refine ⟨j + 1, by omega, ⟨?_, H3.out.2⟩⟩
    have := H3.out.1
    rw [<- hn] at this
    rw [List.replicate_succ', <- List.cons_append, <- List.append_assoc]
    exact this
   case measure =>
    obtain ⟨a3, c3, rfl⟩ := own_form H3.out.1
    simp only [slen]
    omega
  ·have hjz : j = z := by omega
   subst hjz
   have heq : (n : Int) % 64 = 56 := by omega
   have hnl : n <= 1000000 := by omega
   have HPD : Box ((M ++ 128 :: List.replicate j 0) ++ hiT (len * 8) 8 = M ++ padT M) := ⟨by have := pad_is M j (by rw [hML]; exact HZ.out); rwa [hML] at this⟩
   have hYb : Byt (M ++ 128 :: List.replicate j 0) := byt_app _ _ hMb (byt_cons _ _ (by omega) (byt_zeros _))
   obtain ⟨Y, HY⟩ : ∃ Y, Box (M ++ 128 :: List.replicate j 0 = Y) := ⟨_, ⟨rfl⟩⟩
   rw [HY.out] at HB HPD hYb
   have hn64 : (n + 8) % 64 = 0 := by omega
   have HNB : Hid (n + 8 = 64 * ((n + 8) / 64)) := by show _ = _; omega
   have HSH : Box (dgl (blk (M ++ padT M) ((n + 8) / 64)) 32 = sha M) := ⟨by
    rw [sha, hML, HZ.out, show len + j + 9 = n + 8 by omega]⟩
   clear hz hj hlt hn hn64
   go_wp2
   clear heq
   go_loopw [3, 5] (fun v i wr => ∃ k : Nat, k <= 8 /\ i = .int .i64 k /\ Box (wr.ownsRow (S + 1) 5 1 v (n + k) ((Y ++ hiT (len * 8) k).map (Value.int .u8)) /\ Below (S + 1) w0 wr /\ S + 1 <= wr.heap.size)) (fun _ i _ => 8 - (intOf i).toNat)
   case atStart => exact ⟨0, by omega, rfl, ⟨by simpa [hiT] using HB.out.1, HB.out.2⟩⟩
   case round =>
    clear HB
    obtain ⟨k, hk, rfl, HB⟩ := hrel
    obtain ⟨av, cv, hv⟩ := own_form HB.out.1
    subst hv
    by_cases hlt : k < 8
    ·obtain ⟨q, HQ⟩ : ∃ q, Hid (8 * (7 - k) = q) := ⟨_, rfl⟩
     have e1 : 56 - 8 * (k : Int) = (q : Int) := by have := HQ.out; omega
     have lq : q <= 56 := by have := HQ.out; omega
     have HBy : Box (hiT (len * 8) (k + 1) = hiT (len * 8) k ++ [(len : Int) * 8 / 2 ^ q % 256]) := ⟨by rw [hiT_succ _ k hlt, byteAt, HQ.out]⟩
     go_wp2_with (at_builtin; refine wpList_app1 rfl (.tmp 31) (.tmp 39) rfl (S + 1) (n + k) _ _ _ w0 rfl rfl HB.out.1 (by omega) HB.out.2.1 HB.out.2.2 ?_; intro v3 w3 H3)
     go_roundw
     case rel =>
      refine ⟨k + 1, by omega, by go_num, ⟨?_, H3.out.2⟩⟩
      have := H3.out.1
      rw [HBy.out, <- List.append_assoc]
      exact this
     case measure => simp [intOf]; omega
    ·have hk8 : k = 8 := by omega
     subst hk8
     obtain ⟨b1, b2, b3⟩ := HB.out
     rw [HPD.out] at b1
     have hPb : Byt (M ++ padT M) := byt_app _ _ hMb (byt_padT M)
     have hBy := own_bytes b1 hPb
     obtain ⟨P, HP⟩ : ∃ P, Box (M ++ padT M = P) := ⟨_, ⟨rfl⟩⟩
     rw [HP.out] at hBy HSH
     obtain ⟨G, HG⟩ : ∃ G, Hid (wr.heap.size = G) := ⟨_, rfl⟩
     have HWR : Box (Bytes wr av (n + 8) P /\ Below S w wr /\ wr.heap[S]? = some (.cells (fil8 [] 32) 23 (0, 0))) := ⟨hBy, HW0.out.2.trans (b2.mono (Nat.le_succ S)), (b2.block S (Nat.lt_succ_self S)).trans HW0.out.1⟩
     have hSG : S + 1 <= G := by rw [<- HG.out]; exact b3
     clear HB b1 b2 b3 hPb hBy HPD hYb HW0 HB0 hk hlt HP HY HZ
     go_wp2_with (refine wpList_lay43 hh rfl rfl (.tmp 6) (.tmp 41) rfl wr.heap.size _ rfl rfl (al_at rfl) rfl wr.heap.size wr ((Below.refl _ _).alloc (Nat.le_refl _) _) (Nat.le_refl _) ?_; intro x1 HX1)
     obtain ⟨w4, H4⟩ : ∃ w4, Box (wr = w4) := ⟨_, ⟨rfl⟩⟩
     have HX1' : Box (x1.heap[G]? = some (.cells (u32s (blk P 0)) 141 (0, 0)) /\ Below G w4 x1) := ⟨by rw [<- HG.out]; exact HX1.out.1, by rw [<- HG.out, <- H4.out]; exact HX1.out.2.1⟩
     rw [HG.out]
     rw [H4.out] at HWR HG
     clear HX1
     go_loopw [7] (fun i x => ∃ p k : Nat, Hid (p = 64 * k /\ k <= (n + 8) / 64) /\ i = .int .i64 p /\ Box (x.heap[G]? = some (.cells (u32s (blk P k)) 141 (0, 0)) /\ Below G w4 x)) (fun i _ => n + 8 - (intOf i).toNat)
     case atStart => exact ⟨0, 0, ⟨rfl, Nat.zero_le _⟩, rfl, HX1'⟩
     case round =>
      clear HX1'
      obtain ⟨p, k, HT, rfl, HB⟩ := hrel
      by_cases hlt : p < n + 8
      ·have hsz : (u32s (blk P k)).size = 8 := by rw [size_u32s, length_blk]
       have hp : p + 64 <= n + 8 := by have := HNB.out; have := HT.out; omega
       have hks : k + 1 <= (n + 8) / 64 := by have := HNB.out; have := HT.out; omega
       have HBL : Box (Calls Tryd.prog 79 #[.agg (u32s (blk P k)), .slice av (n + 8) cv, .int .i64 p] wr fun e w' => e = .returned (.agg (u32s (blk P (k + 1)))) /\ Below wr.heap.size wr w') := ⟨by
        have h1 := HT.out.1
        rw [blk, <- h1]
        exact block_any (blk P k) P av (n + 8) cv p wr (length_blk P k) (wrd_blk P k) (HWR.out.1.below (by rw [HG.out]; exact HB.out.2)) hp (by omega)⟩
       have hsz2 : (u32s (blk P (k + 1))).size = 8 := by rw [size_u32s, length_blk]
       obtain ⟨X, HX⟩ : ∃ X, Box (blk P k = X) := ⟨_, ⟨rfl⟩⟩
       obtain ⟨X2, HX2⟩ : ∃ X, Box (blk P (k + 1) = X) := ⟨_, ⟨rfl⟩⟩
       rw [HX.out] at HBL HB hsz
       rw [HX2.out] at HBL hsz2
       have hGl : G < wr.heap.size := (Array.getElem?_eq_some_iff.1 HB.out.1).1
       have HGL : Hid _ := hGl
       clear hGl
       go_wp2_with (first
        | (refine wpList_load_row rfl 141 (.tmp 6) rfl G rfl 141 (u32s X) (0, 0) _ HB.out.1 Tryd.underlying141 rfl (by rw [hsz]; kernel_rfl) ?_)
        | (go_at_call 79; refine Calls.mono HBL.out ?_; rintro e w6 ⟨rfl, hb6⟩; have H6 : Box (w6.heap[G]? = some (.cells (u32s X) 141 (0, 0)) /\ Below G w4 w6) := ⟨(hb6.block G HGL.out).trans HB.out.1, HB.out.2.trans (hb6.mono (Nat.le_of_lt HGL.out))⟩; clear hb6)
        | (refine wpList_lay43 X2 hsz2 rfl (.tmp 6) (.tmp 51) rfl G _ rfl rfl H6.out.1 hsz G w4 H6.out.2 (Nat.le_refl _) ?_; intro x7 H7))
       go_roundw
       case rel => exact ⟨p + 64, k + 1, ⟨by have := HT.out.1; omega, hks⟩, by go_num, ⟨by rw [HX2.out]; exact H7.out.1, H7.out.2.1⟩⟩
       case measure => simp [intOf]; omega
      ·have hkn : k = (n + 8) / 64 := by have := HNB.out; have := HT.out; omega
       obtain ⟨ws, HWS⟩ : ∃ X, Box (blk P k = X) := ⟨_, ⟨rfl⟩⟩
       rw [HWS.out] at HB
       have HDG : Box (dgl ws 32 = sha M) := ⟨by rw [<- HWS.out, hkn]; exact HSH.out⟩
       have h8 : ws.length = 8 := by rw [<- HWS.out]; exact length_blk _ _
       have hwrd : Wrd ws := by rw [<- HWS.out]; exact wrd_blk _ _
       obtain ⟨O, HO⟩ : ∃ O, Hid (wr.heap.size = O) := ⟨_, rfl⟩
       have hGO : G < O := by rw [<- HO.out]; exact (Array.getElem?_eq_some_iff.1 HB.out.1).1
       clear HSH HWS hkn HNB
       go_wp2
       rw [HO.out, <- HZ32.out]
       have HX : Box ((wr.alloc (.cells (fil8 [] 32) 23)).heap[G]? = some (.cells (u32s ws) 141 (0, 0)) /\ (wr.alloc (.cells (fil8 [] 32) 23)).heap[O]? = some (.cells (fil8 (dgl ws 0) 32) 23 (0, 0)) /\ Below G w4 (wr.alloc (.cells (fil8 [] 32) 23))) := ⟨al_old HB.out.1, al_at HO.out, HB.out.2.alloc (by rw [HO.out]; omega) _⟩
       generalize wr.alloc (.cells (fil8 [] 32) 23) = x8 at HX ⊢
       clear HB HT hlt
       go_loopw [9] (fun i x => ∃ k : Nat, k <= 32 /\ i = .int .i64 k /\ Box (x.heap[G]? = some (.cells (u32s ws) 141 (0, 0)) /\ x.heap[O]? = some (.cells (fil8 (dgl ws k) 32) 23 (0, 0)) /\ Below G w4 x)) (fun i _ => 32 - (intOf i).toNat)
       case atStart => exact ⟨0, by omega, rfl, HX⟩
       case round =>
        clear HX
        obtain ⟨k, hk, rfl, HWr⟩ := hrel
        by_cases hlt : k < 32
        ·obtain ⟨q, HQ⟩ : ∃ q, Hid (k / 4 = q) := ⟨_, rfl⟩
         obtain ⟨r, HR⟩ : ∃ r, Hid (k % 4 = r) := ⟨_, rfl⟩
         obtain ⟨m, HM⟩ : ∃ m, Hid (24 - 8 * r = m) := ⟨_, rfl⟩
         have hq : k / 4 = q := HQ.out
         have hr : k % 4 = r := HR.out
         have eq1 : (k : Int) / 4 = (q : Int) := by omega
         have eq2 : (k : Int) % 4 = (r : Int) := by omega
         have eq3 : 24 - 8 * (r : Int) = (m : Int) := by have := HM.out; omega
         have lq : q < 8 := by omega
         have lr : r < 4 := by omega
         have lm : m <= 24 := by have := HM.out; omega
         have c1 := u32_cell wr G q ws _ _ HWr.out.1 (by omega)
         obtain ⟨b1, b2⟩ := hwrd q
         have HD : Hid (dgb ws k = ws.getD q 0 / 2 ^ m % 256) := by rw [Hid, dgb, hq, hr, HM.out]
         generalize ws.getD q 0 = y at c1 b1 b2 HD
         have hln := length_dgl ws k
         have f1 : wr.frozen? ⟨O, k, none⟩ = false := frozen_of_row wr _ _ _ 23 HWr.out.2.1
         obtain ⟨v, hcw⟩ : ∃ v, wr.cell? ⟨O, k, none⟩ = some v := by
          obtain ⟨v, hv⟩ := fil8_some (dgl ws k) 32 k hlt (by omega)
          exact ⟨v, by rw [cell_of_row _ _ _ _ _ _ HWr.out.2.1]; exact hv⟩
         have HW3 : Box ((wr.setCell ⟨O, k, none⟩ (.int .u8 (dgb ws k))).heap[G]? = some (.cells (u32s ws) 141 (0, 0)) /\ (wr.setCell ⟨O, k, none⟩ (.int .u8 (dgb ws k))).heap[O]? = some (.cells (fil8 (dgl ws (k + 1)) 32) 23 (0, 0)) /\ Below G w4 (wr.setCell ⟨O, k, none⟩ (.int .u8 (dgb ws k)))) := by
          have hoth : ∀ k', k' ≠ O -> (wr.setCell ⟨O, k, none⟩ (.int .u8 (dgb ws k))).heap[k']? = wr.heap[k']? := fun k' hk => heap_setCell_other wr ⟨O, k, none⟩ k' _ (fun e => hk e)
          obtain ⟨a1, a2, a3⟩ := HWr.out
          refine ⟨(hoth _ (by omega)).trans a1, ?_, ⟨a3.os, a3.tape, a3.output, by simpa using a3.size, fun k hk => (hoth k (by omega)).trans (a3.block k hk)⟩⟩
          rw [heap_setCell_same wr _ k _ 23 _ a2, dgl, <- fil8_set _ _ _ (by omega), hln]
         clear hq hr hln HQ HR HM
         go_wp2
         go_roundw
         case rel => exact ⟨k + 1, by omega, by go_num, by rw [<- HD.out]; exact HW3⟩
         case measure => simp [intOf]; omega
        ·have hk32 : k = 32 := by omega
         subst hk32
         obtain ⟨a1, a2, a3⟩ := HWr.out
         obtain ⟨X, HX⟩ : ∃ X, Box (sha M = X) := ⟨_, ⟨rfl⟩⟩
         rw [fil8_full _ 32 (length_dgl ws 32), HDG.out, HX.out] at a2
         have hXl : (u8s X).size = 32 := by rw [<- HX.out, size_u8s, length_sha]
         have hS5 : wr.heap[S]? = some (.cells (fil8 [] 32) 23 (0, 0)) := (a3.block S (by omega)).trans HWR.out.2.2
         have HF : Box ((u8s X).size = 32 /\ (u8s X).all (·.oneCell') = true /\ wr.heap[O]? = some (.cells (u8s X) 23 (0, 0)) /\ wr.heap[S]? = some (.cells (fil8 [] 32) 23 (0, 0)) /\ Below S w wr) := ⟨hXl, all_u8s X, a2, hS5, HWR.out.2.1.trans (a3.mono (by omega))⟩
         clear a1 a2 a3 hXl HDG HWr hS5 HWR
         go_wp2_with (first | (refine wpList_load_row rfl 23 _ rfl O rfl 23 (u8s X) (0, 0) _ HF.out.2.2.1 Tryd.underlying23 rfl (by rw [HF.out.1]; kernel_rfl) ?_) | (refine wpList_store_row rfl 23 _ _ rfl S (u8s X) rfl rfl 23 (fil8 [] 32) HF.out.2.2.2.1 (by rw [HF.out.1]; kernel_rfl) (by rw [HF.out.1]; rfl) HF.out.2.1 ?_))
         (try simp only [Exit.inBlock, Exit.then])
         refine bodyPost_ret (results_cell_row (p := 2) (ty := 23) rfl _ _ S 23 (u8s X) (0, 0) _ rfl (setRow_heap _ _ _ _ _ _ HF.out.2.2.2.1) Tryd.underlying23 rfl (by rw [HF.out.1]; kernel_rfl)) rfl ?_
         exact ⟨by rw [HX.out], by rw [HS.out]; exact below_setRow HF.out.2.2.2.2 (Nat.le_refl _) _⟩
end Go.Proofs.YthfobaeafapbnaaDoor.Dig
