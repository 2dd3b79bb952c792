/-
 What the reference's Nonce answers, for every place and version. And what follows it.
-/
import Derived.Test.YthfobaeafapbnaaDoorQ01
import Derived.Test.YthfobaeafapbnaaDoorQ20
import Derived.Test.YthfobaeafapbnaaDoorQ19
set_option linter.unusedVariables false
set_option maxRecDepth 100000
namespace Go.Proofs.YthfobaeafapbnaaDoor.Seal.Plain
end Go.Proofs.YthfobaeafapbnaaDoor.Seal.Plain
namespace Go.Proofs.YthfobaeafapbnaaDoor.Seal
open Go.RowKit Go.Proofs.YthfobaeafapbnaaDoor.Plain Go.Proofs.YthfobaeafapbnaaDoor.Seal.Plain
theorem rput_k (x' x n : Int) (N : Nat) (w : World) (hx : 0 <= x /\ x <= 18446744073709551615) (hN : n = (N : Int)) (h8 : N <= 8) (h1 : 1 <= N) (he : x' = x) :
  Calls Tryd.prog 64 #[.int .u64 x', .int .i64 n] w fun e w' => ∃ b off cap', e = .returned (.slice (some ⟨b, off, none⟩) N cap') /\ Bytes w' (some ⟨b, off, none⟩) N (bytesOf x N) /\ Below w.heap.size w w' /\ w.heap.size <= b := by
 subst he
 refine (rput_any x' n N w hx (by omega) (by omega)).mono ?_
 rintro e w' ⟨a', cap', he, ho⟩
 have hB := ho.bytes (bytesOf_bd _ _)
 obtain ⟨b, off, rfl, _⟩ := hB.2.2 (by omega)
 exact ⟨b, off, cap', he, hB, ho.2.2, own_block_le ho.2.1 b rfl⟩
structure Nr (w wr : World) (S : Nat) (X : List Int) : Prop where
 res : wr.heap[S]? = some (.cells (fil8 [] 12) 150 (0, 0))
 out : wr.heap[S + 1]? = some (.cells (fil8 X 12) 150 (0, 0))
 bel : Below S w wr
theorem Nr.on {w wr wx : World} {S : Nat} {X : List Int} (h : Nr w wr S X) (hb : Below wr.heap.size wr wx) : Nr w wx S X := by
 have l1 := (Array.getElem?_eq_some_iff.1 h.res).1
 exact ⟨row_on h.res hb, row_on h.out hb, h.bel.trans (hb.mono (by omega))⟩
theorem Nr.put {w wr : World} {S : Nat} {X : List Int} (h : Nr w wr S X) (i : Nat) (hi : X.length = i) (hX : i < 12) (v : Int) : Nr w (wr.setCell ⟨S + 1, i, none⟩ (.int .u8 v)) S (X ++ [v]) := by
 subst hi
 exact ⟨by rw [heap_setCell_other wr ⟨S + 1, X.length, none⟩ S _ (fun e => by simp at e)]; exact h.res, by rw [heap_setCell_same wr (S + 1) X.length _ 150 _ h.out, fil8_set X 12 v hX], below_set h.bel (by omega) _⟩
theorem bytes_put {wr : World} {b off n G i : Nat} {L : List Int} {v : Value} (h : Bytes wr (some ⟨b, off, none⟩) n L) (hn : 0 < n) (hne : b ≠ G) : Bytes (wr.setCell ⟨G, i, none⟩ v) (some ⟨b, off, none⟩) n L := by
 refine ⟨h.1, h.2.1, fun _ => ?_⟩
 obtain ⟨b', off', he, hlt, hc⟩ := h.2.2 hn
 simp only [Option.some.injEq, Addr.mk.injEq, and_true] at he
 obtain ⟨rfl, rfl⟩ := he
 refine ⟨b, off, rfl, by simpa using hlt, fun j hj => ?_⟩
 rw [<- hc j hj]
 simp only [World.cell?, heap_setCell_other wr ⟨G, i, none⟩ b v hne]
theorem bytes_cell {wr : World} {b off n : Nat} {L : List Int} (h : Bytes wr (some ⟨b, off, none⟩) n L) (i : Nat) (hi : i < n) : wr.cell? ⟨b, off + i, none⟩ = some (.int .u8 (L.getD i 0)) := by
 obtain ⟨b', off', he, hlt, hc⟩ := h.2.2 (by omega)
 simp only [Option.some.injEq, Addr.mk.injEq, and_true] at he
 obtain ⟨rfl, rfl⟩ := he
 exact hc i hi
set_option maxRecDepth 20000 in
set_option maxHeartbeats 1000000 in
theorem rnonce_any (p v : Int) (w : World) (hp : W32 p) (hv : 0 <= v /\ v <= 18446744073709551615) :
  Calls Tryd.prog 66 #[.int .u32 p, .int .u64 v] w fun e w' => e = .returned (.agg (u8s (non p v))) /\ Below w.heap.size w w' := by
 obtain ⟨hp0, hp1⟩ := hp
 obtain ⟨S, hS⟩ : ∃ S, w.heap.size = S := ⟨_, rfl⟩
 have HS : Hid (w.heap.size = S) := hS
 have I0 : Box (Nr w ((w.alloc (.cells (fil8 [] 12) 150)).alloc (.cells (fil8 [] 12) 150)) S (bytesOf p 0)) := ⟨al_old (al_at hS), al_at (by simp [hS]), by rw [<- hS]; exact ((Below.refl _ _).alloc (Nat.le_refl _) _).alloc (by simp) _⟩
 have z12 : fil8 [] 12 = #[.int .u8 0, .int .u8 0, .int .u8 0, .int .u8 0, .int .u8 0, .int .u8 0, .int .u8 0, .int .u8 0, .int .u8 0, .int .u8 0, .int .u8 0, .int .u8 0] := rfl
 rw [z12] at I0
 have C1 : Box (∀ x, Calls Tryd.prog 64 #[.int .u64 p, .int .i64 4] x fun e w' => ∃ b off cap', e = .returned (.slice (some ⟨b, off, none⟩) 4 cap') /\ Bytes w' (some ⟨b, off, none⟩) 4 (bytesOf p 4) /\ Below x.heap.size x w' /\ x.heap.size <= b) := ⟨fun x => rput_k p p 4 4 x ⟨by omega, by omega⟩ rfl (by omega) (by omega) rfl⟩
 have C2 : Box (∀ x, Calls Tryd.prog 64 #[.int .u64 v, .int .i64 8] x fun e w' => ∃ b off cap', e = .returned (.slice (some ⟨b, off, none⟩) 8 cap') /\ Bytes w' (some ⟨b, off, none⟩) 8 (bytesOf v 8) /\ Below x.heap.size x w' /\ x.heap.size <= b) := ⟨fun x => rput_k v v 8 8 x hv rfl (by omega) (by omega) rfl⟩
 have s1 : IntKind.u64.wrap p = p := by rw [IntKind.wrap_u64]; omega
 clear hS z12 hv
 go_enter Tryd.func66, Tryd.ntmps66
 go_upto_region 2 with fail
 rw [HS.out]
 generalize (w.alloc (.cells _ 150)).alloc _ = x0 at I0 ⊢
 go_wp2_with (first
  | (go_at_call 64; refine (C2.out w1).mono ?_; rintro e w2 ⟨b2, off2, c2, rfl, hB2, hb2, hl2⟩; have hn2 : b2 ≠ S + 1 := (by have := (Array.getElem?_eq_some_iff.1 H1.out.1.out).1; omega); have H2 : Box (Nr w w2 S (bytesOf p 0) /\ Bytes w2 (some ⟨b1, off1, none⟩) 4 (bytesOf p 4) /\ Bytes w2 (some ⟨b2, off2, none⟩) 8 (bytesOf v 8)) := ⟨H1.out.1.on hb2, H1.out.2.below hb2, hB2⟩; clear hB2 hb2 hl2)
  | (go_at_call 64; refine (C1.out x0).mono ?_; rintro e w1 ⟨b1, off1, c1, rfl, hB1, hb1, hl1⟩; have hn1 : b1 ≠ S + 1 := (by have := (Array.getElem?_eq_some_iff.1 I0.out.out).1; omega); have H1 : Box (Nr w w1 S (bytesOf p 0) /\ Bytes w1 (some ⟨b1, off1, none⟩) 4 (bytesOf p 4)) := ⟨I0.out.on hb1, hB1⟩; clear hB1 hb1 hl1))
 clear I0 H1 C1 C2 s1
 go_loopw [8] (fun i wr => ∃ k : Nat, k <= 4 /\ i = .int .i64 k /\ Box (Nr w wr S (bytesOf p k) /\ Bytes wr (some ⟨b1, off1, none⟩) 4 (bytesOf p 4) /\ Bytes wr (some ⟨b2, off2, none⟩) 8 (bytesOf v 8))) (fun i _ => 4 - (intOf i).toNat)
 case atStart => exact ⟨0, by omega, rfl, H2⟩
 case round =>
  clear H2
  obtain ⟨k, hk, rfl, HB⟩ := hrel
  by_cases hlt : k < 4
  ·have cb := bytes_cell HB.out.2.1 k hlt
   rw [bytesOf_get p 4 k hlt] at cb
   have hy := byteAt_bd p k
   obtain ⟨u, cu⟩ : ∃ u, wr.cell? ⟨S + 1, k, none⟩ = some u := by
    obtain ⟨u, hu⟩ := fil8_some (bytesOf p k) 12 k (by omega) (by rw [length_bytesOf]; omega)
    exact ⟨u, by rw [cell_of_row _ _ _ _ _ _ HB.out.1.out]; exact hu⟩
   have fv : wr.frozen? ⟨S + 1, k, none⟩ = false := frozen_of_row wr _ _ _ 150 HB.out.1.out
   have HN : Box (Nr w (wr.setCell ⟨S + 1, k, none⟩ (.int .u8 (byteAt p k))) S (bytesOf p (k + 1)) /\ Bytes (wr.setCell ⟨S + 1, k, none⟩ (.int .u8 (byteAt p k))) (some ⟨b1, off1, none⟩) 4 (bytesOf p 4) /\ Bytes (wr.setCell ⟨S + 1, k, none⟩ (.int .u8 (byteAt p k))) (some ⟨b2, off2, none⟩) 8 (bytesOf v 8)) := ⟨HB.out.1.put k (length_bytesOf p k) (by omega) _, bytes_put HB.out.2.1 (by omega) hn1, bytes_put HB.out.2.2 (by omega) hn2⟩
   generalize byteAt p k = y at cb hy HN
   obtain ⟨y0, y1⟩ := hy
   clear HB
   go_wp2
   go_roundw
   case rel => exact ⟨k + 1, by omega, by go_num, HN⟩
   case measure => simp [intOf]; omega
  ·have HK : Box (k = 4) := ⟨by omega⟩
   rw [HK.out] at HB
   have H3 : Box (Nr w wr S (bytesOf p 4 ++ bytesOf v 0) /\ Bytes wr (some ⟨b2, off2, none⟩) 8 (bytesOf v 8)) := ⟨by rw [show bytesOf v 0 = [] from rfl, List.append_nil]; exact HB.out.1, HB.out.2.2⟩
   clear HB
   go_wp2
   go_loopw [9] (fun i wr => ∃ k : Nat, k <= 8 /\ i = .int .i64 k /\ Box (Nr w wr S (bytesOf p 4 ++ bytesOf v k) /\ Bytes wr (some ⟨b2, off2, none⟩) 8 (bytesOf v 8))) (fun i _ => 8 - (intOf i).toNat)
   case atStart => exact ⟨0, by omega, rfl, H3⟩
   case round =>
    clear H3
    obtain ⟨k, hk, rfl, HB⟩ := hrel
    by_cases hlt9 : k < 8
    ·have cb := bytes_cell HB.out.2 k hlt9
     rw [bytesOf_get v 8 k hlt9] at cb
     have hy := byteAt_bd v k
     have hX : (bytesOf p 4 ++ bytesOf v k).length = 4 + k := by rw [List.length_append, length_bytesOf, length_bytesOf]
     obtain ⟨u, cu⟩ : ∃ u, wr.cell? ⟨S + 1, 4 + k, none⟩ = some u := by
      obtain ⟨u, hu⟩ := fil8_some (bytesOf p 4 ++ bytesOf v k) 12 (4 + k) (by omega) (by omega)
      exact ⟨u, by rw [cell_of_row _ _ _ _ _ _ HB.out.1.out]; exact hu⟩
     have fv : wr.frozen? ⟨S + 1, 4 + k, none⟩ = false := frozen_of_row wr _ _ _ 150 HB.out.1.out
     have HN : Box (Nr w (wr.setCell ⟨S + 1, 4 + k, none⟩ (.int .u8 (byteAt v k))) S (bytesOf p 4 ++ bytesOf v (k + 1)) /\ Bytes (wr.setCell ⟨S + 1, 4 + k, none⟩ (.int .u8 (byteAt v k))) (some ⟨b2, off2, none⟩) 8 (bytesOf v 8)) := ⟨by
      have := HB.out.1.put (4 + k) hX (by omega) (byteAt v k)
      rw [List.append_assoc] at this
      exact this, bytes_put HB.out.2 (by omega) hn2⟩
     generalize byteAt v k = y at cb hy HN
     obtain ⟨y0, y1⟩ := hy
     clear HB hX
     go_wp2
     go_roundw
     case rel => exact ⟨k + 1, by omega, by go_num, HN⟩
     case measure => simp [intOf]; omega
    ·have HK8 : Box (k = 8) := ⟨by omega⟩
     rw [HK8.out] at HB
     obtain ⟨X, HX⟩ := named (non p v)
     have hXl : X.length = 12 := by rw [<- HX.out]; exact length_non p v
     have HI := HB.out.1
     rw [show bytesOf p 4 ++ bytesOf v 8 = non p v from rfl, HX.out] at HI
     have hsz : (u8s X).size = 12 := by rw [size_u8s, hXl]
     have hall := all_u8s X
     have HW := HI.out
     rw [fil8_full X 12 hXl] at HW
     have HF : Box (wr.heap[S + 1]? = some (.cells (u8s X) 150 (0, 0)) /\ wr.heap[S]? = some (.cells (fil8 [] 12) 150 (0, 0)) /\ Below S w wr) := ⟨HW, HI.res, HI.bel⟩
     clear HW HI HB
     go_wp2_with (first | (refine wpList_load_row rfl 150 _ rfl (S + 1) rfl 150 (u8s X) (0, 0) _ HF.out.1 Tryd.underlying150 rfl (by rw [hsz]; kernel_rfl) ?_) | (refine wpList_store_row rfl 150 _ _ rfl S (u8s X) rfl rfl 150 (fil8 [] 12) HF.out.2.1 (by rw [hsz]; kernel_rfl) (by rw [hsz]; rfl) hall ?_))
     (try simp only [Exit.inBlock, Exit.then])
     refine bodyPost_ret (results_cell_row (p := 4) (ty := 150) rfl _ _ S 150 (u8s X) (0, 0) _ rfl (setRow_heap _ _ _ _ _ _ HF.out.2.1) Tryd.underlying150 rfl (by rw [hsz]; kernel_rfl)) rfl ?_
     exact ⟨by rw [HX.out], by rw [HS.out]; exact below_setRow HF.out.2.2 (Nat.le_refl _) _⟩
end Go.Proofs.YthfobaeafapbnaaDoor.Seal
namespace Go.Proofs.YthfobaeafapbnaaDoor.Seal.Plain
end Go.Proofs.YthfobaeafapbnaaDoor.Seal.Plain
namespace Go.Proofs.YthfobaeafapbnaaDoor.Seal
open Go.RowKit Go.Proofs.YthfobaeafapbnaaDoor.Plain Go.Proofs.YthfobaeafapbnaaDoor.Seal.Plain
theorem wp_app1 {o : Oper} {act : Act} {w : World} {KK : Act -> World -> Prop} {Q : Exit -> Act -> World -> Prop} (s x : Operand)
  (ho : o.op = .call { callee := .builtin .append, args := #[s, x], argTypes := #[63, 63] }) (base n : Nat) (v : Value) (A : List Int) (z : Int) (w0 : World)
  (hs : act.eval s = v) (hx : act.eval x = .slice (some ⟨w.heap.size, 0, none⟩) 1 1) (hown : w.ownsRow base 5 1 v n (A.map (Value.int .u8))) (hl : n + 1 <= 140737488355328) (hbel : Below base w0 w) (hbase : base <= w.heap.size)
  (h : ∀ v' w', Box (w'.ownsRow base 5 1 v' (n + 1) ((A ++ [z]).map (Value.int .u8)) /\ Below base w0 w' /\ base <= w'.heap.size /\ ∀ (G : Nat) (cs : Array Value), w.heap[G]? = some (.cells cs 142 (0, 0)) -> w'.heap[G]? = some (.cells cs 142 (0, 0))) -> KK (act.put o.dst v') w') : o.wp Tryd.prog act (w.alloc (.cells #[.int .u8 z] 5)) KK Q := by
 obtain ⟨i0, hi, hz0, hz1, hz2⟩ := info_parts Tryd.info5
 refine wp_append_own _ s x 63 ho base 5 i0 (.int .u8 0) 1 1 Tryd.underlying63 hi hz0 hz1 hz2 rfl (by decide) v n _ hs (hown.alloc _) _ 1 1 [.int .u8 z] hx rfl (cell_one_new _ _ _) (oneCell_int z) (by unfold maxLen; omega) (by omega) (by simp; omega) ?_
 intro v' w' h1 h2 _
 have hsz := h2.size
 simp at hsz
 refine h v' w' ⟨by rw [List.map_append]; exact h1, (hbel.alloc hbase _).grown h2 (by simp; omega) (own_block_le hown), by omega, fun G cs hG => ?_⟩
 have hlt := (Array.getElem?_eq_some_iff.1 hG).1
 rw [h2.block G (by simp; omega) ?_]
 ·exact al_old hG
 ·intro e
  rcases hown.2 with ⟨rfl, _⟩ | ⟨g, cap', cur, rfl, _, hh, _⟩
  ·cases e
  ·have e' : G = g := by simpa [Value.ownBlock] using e
   subst e'
   rw [hG] at hh
   simp at hh
set_option maxRecDepth 20000 in
set_option maxHeartbeats 2000000 in
theorem rcrypt_ok (a : Option Addr) (len cap : Nat) (K N B : List Int) (c : Int) (w : World) (hK : Byt K) (hKl : K.length = 32) (hN : Byt N) (hNl : N.length = 12) (hc : W32 c) (hB : Bytes w a len B) (hl : len <= 1000000) (h : c + ((len + 63) / 64 : Nat) <= 4294967296) :
  Calls Tryd.prog 65 #[.agg (u8s K), .int .u32 c, .agg (u8s N), .slice a len cap] w fun e w' => ∃ a' c', e = .returned (.tuple #[.slice a' len c', .int .i64 0]) /\ Bytes w' a' len (cr K c N B len) /\ Below w.heap.size w w' := by
 obtain ⟨h0, h1⟩ := hc
 have e1 : IntKind.u64.wrap c = c := by rw [IntKind.wrap_u64]; omega
 have e0 : IntKind.u64.wrap ((len : Int) + 63) = (len : Int) + 63 := by rw [IntKind.wrap_u64]; omega
 have hb : (len + 63) / 64 <= 1000000 := by omega
 have hq : ((len : Int) + 63) / 64 = (((len + 63) / 64 : Nat) : Int) := by omega
 have HI : Box (∀ i, i < (len + 63) / 64 -> 64 * i < len) := ⟨fun i hi => by omega⟩
 have HI2 : Box (len <= 64 * ((len + 63) / 64)) := ⟨by omega⟩
 generalize (len + 63) / 64 = n at h hb hq HI HI2
 have e2 : IntKind.u64.wrap (c + (n : Int)) = c + (n : Int) := by rw [IntKind.wrap_u64]; omega
 have h' : ¬ 4294967296 < c + (n : Int) := by omega
 have HC : Box (∀ k : Nat, k < n -> c + (k : Int) < 4294967296) := ⟨fun k hk => by omega⟩
 obtain ⟨S, hS⟩ : ∃ S, w.heap.size = S := ⟨_, rfl⟩
 have HS : Hid (w.heap.size = S) := hS
 have H0 : Box (Tw w ((w.alloc (.cells (u8s K) 23)).alloc (.cells (u8s N) 150)) S K N) := ⟨al_old (al_at hS), al_at (by simp [hS]), ((Below.refl _ _).alloc (Nat.le_refl _) _).alloc (by simp) _⟩
 have HB : Box (∀ x, Below w.heap.size w x -> Bytes x a len B) := ⟨fun x hx => hB.below hx⟩
 have HBk : Box (∀ x (k : Nat), k < n -> Calls Tryd.prog 78 #[.agg (u8s K), .int .u32 (c + (k : Int)), .agg (u8s N)] x fun e w' => e = .returned (.agg (u8s (blk K (c + (k : Int)) N))) /\ Below x.heap.size x w') := ⟨fun x k hk => rblock_any K N _ x hK hKl hN hNl ⟨by omega, HC.out k hk⟩⟩
 clear hS hB h
 go_enter Tryd.func65, Tryd.ntmps65
 go_upto_region 1 with fail
 rw [HS.out]
 generalize (w.alloc (.cells (u8s K) 23)).alloc (.cells (u8s N) 150) = x0 at H0 ⊢
 go_wp2
 obtain ⟨base, Hb⟩ : ∃ b, Box (x0.heap.size = b) := ⟨_, ⟨rfl⟩⟩
 have HP : Box (∀ x, Below base x0 x -> Tw w x S K N /\ Bytes x a len B) := ⟨fun x hx => by
  rw [<- Hb.out] at hx
  exact ⟨H0.out.on hx, HB.out x (H0.out.on hx).2.2⟩⟩
 go_loopw [11, 12] (fun v i wr => ∃ k L : Nat, k <= n /\ L = min (64 * k) len /\ i = .int .u64 k /\ Box (wr.ownsRow base 5 1 v L ((cr K c N B L).map (Value.int .u8)) /\ Below base x0 wr /\ base <= wr.heap.size)) (fun _ i _ => n - (intOf i).toNat)
 case atStart => exact ⟨0, 0, by omega, by omega, rfl, ⟨World.ownsRow_nil _ _ _ _, Below.refl _ _, by rw [<- Hb.out]; exact Nat.le_refl _⟩⟩
 case round =>
  obtain ⟨k, L, hk, hL, rfl, HO⟩ := hrel
  obtain ⟨av, cv, hv⟩ := own_form HO.out.1
  subst hv
  by_cases hlt : k < n
  ·have hkl := HI.out k hlt
   have hL2 : L = 64 * k := by omega
   clear hL
   have s2 : IntKind.u32.wrap (k : Int) = (k : Int) := by rw [IntKind.wrap_u32]; have := HC.out k hlt; omega
   have hck := HC.out k hlt
   have C3 := HBk.out wr k hlt
   have HST : Box (∀ i, i < 64 -> Plain.stm K c N (64 * k + i) = (blk K (c + (k : Int)) N).getD i 0) := ⟨fun i hi => by
    unfold Plain.stm
    rw [show (64 * k + i) / 64 = k by omega, show (64 * k + i) % 64 = i by omega, Int.emod_eq_of_lt (by omega) (by omega)]⟩
   have hXb := byt_blk K (c + (k : Int)) N
   have hXl := length_blk K (c + (k : Int)) N
   generalize blk K (c + (k : Int)) N = X at C3 HST hXb hXl
   have HC3 : Box _ := ⟨C3⟩
   have HXb : Box (Byt X) := ⟨hXb⟩
   clear C3 hXb
   subst hL2
   go_wp2_with (first
    | (refine wpList_put64 w5 X hXl rfl (.tmp 13) (.tmp 37) rfl rfl rfl _ rfl ?_; intro z5 hz5 hb5; have H5 : Box (z5.ownsRow base 5 1 (.slice av (64 * k) cv) (64 * k) ((cr K c N B (64 * k)).map (Value.int .u8)) /\ Below base x0 z5 /\ base <= z5.heap.size /\ z5.heap[w5.heap.size]? = some (.cells (u8s X) 142 (0, 0))) := ⟨own_later H4.out.1 hb5, H4.out.2.1.trans (hb5.mono H4.out.2.2), Nat.le_trans H4.out.2.2 hb5.size, hz5⟩; clear hz5 hb5)
    | (go_at_call 78; refine HC3.out.mono ?_; rintro e w5 ⟨rfl, hb⟩; have H4 : Box (w5.ownsRow base 5 1 (.slice av (64 * k) cv) (64 * k) ((cr K c N B (64 * k)).map (Value.int .u8)) /\ Below base x0 w5 /\ base <= w5.heap.size) := ⟨own_later HO.out.1 hb, HO.out.2.1.trans (hb.mono HO.out.2.2), Nat.le_trans HO.out.2.2 hb.size⟩; clear hb)
    | (refine wpList_seeNon (S + 1) N hNl (HP.out wr HO.out.2.1).1.2.1 rfl (.tmp 6) rfl rfl ?_)
    | (refine wpList_seeKey S K hKl (HP.out wr HO.out.2.1).1.1 rfl (.tmp 4) rfl rfl ?_))
   generalize w5.heap.size = G at H5 ⊢
   clear H4 HC3 HO s2
   go_loopw [11, 14] (fun v j wr => ∃ i L : Nat, i <= 64 /\ L = min (64 * k + i) len /\ j = .int .i64 i /\ Box (wr.ownsRow base 5 1 v L ((cr K c N B L).map (Value.int .u8)) /\ Below base x0 wr /\ base <= wr.heap.size /\ wr.heap[G]? = some (.cells (u8s X) 142 (0, 0)))) (fun _ j _ => 64 - (intOf j).toNat)
   case atStart => exact ⟨0, 64 * k, by omega, by omega, rfl, H5⟩
   case round =>
    clear H5
    obtain ⟨i, L, hi, hL, rfl, HJ⟩ := hrel
    obtain ⟨av2, cv2, hv2⟩ := own_form HJ.out.1
    subst hv2
    have HL : Box (L = min (64 * k + i) len) := ⟨hL⟩
    clear hL
    by_cases hi64 : i < 64
    ·obtain ⟨p, hp⟩ : ∃ p, 64 * k + i = p := ⟨_, rfl⟩
     have e3 : IntKind.i64.wrap (k : Int) = (k : Int) := by rw [IntKind.wrap_i64]; omega
     have e4 : (k : Int) * 64 + (i : Int) = (p : Int) := by omega
     have e5 : IntKind.i64.wrap ((k : Int) * 64) = (k : Int) * 64 := by rw [IntKind.wrap_i64]; omega
     by_cases hpl : p < len
     ·have hLp : L = p := by have := HL.out; omega
      subst hLp
      have HCR : Box (cr K c N B (L + 1) = cr K c N B L ++ [xr (B.getD L 0) (X.getD i 0)]) := ⟨by rw [cr, <- hp, HST.out i hi64]⟩
      have HBy := (HP.out wr HJ.out.2.1).2
      obtain ⟨bb, off, hba, hbl, hbc⟩ := HBy.2.2 (by omega)
      subst hba
      have cz : wr.drew.cell? ⟨bb, off + L, none⟩ = _ := hbc L hpl
      have hz := HBy.2.1 L
      have cx : wr.drew.cell? ⟨G, i, none⟩ = _ := row_cell wr G i X _ _ HJ.out.2.2.2 (by omega)
      have hx := HXb.out i
      generalize B.getD L 0 = z at cz hz HCR
      generalize X.getD i 0 = xx at cx hx HCR
      obtain ⟨z0, z1⟩ := hz
      obtain ⟨x0', x1'⟩ := hx
      have HD : Box (wr.drew.ownsRow base 5 1 (.slice av2 L cv2) L ((cr K c N B L).map (Value.int .u8)) /\ Below base x0 wr.drew /\ base <= wr.drew.heap.size /\ wr.drew.heap[G]? = some (.cells (u8s X) 142 (0, 0))) := ⟨HJ.out.1, HJ.out.2.1.drew, HJ.out.2.2⟩
      clear HJ HBy hbl hbc
      have e6 : (L : Int) < (len : Int) := by omega
      go_upto_region 14 with fail
      refine wp_region_any (by kernel_rfl) ?_
      change wpAny _ _ _ _ _ _ _ (World.drew _)
      generalize World.drew wr = y at HD cz cx ⊢
      refine wpAny_take (i := 0) (v := ?_) rfl (by kernel_rfl) (by kernel_rfl) (by kernel_rfl) (fun _ _ _ h => h) (Or.inl ⟨by rfl, ?_⟩) ?_
      rotate_left
      ·intro w'; go_simp <;> with_reducible rfl
      try simp only [Act.put, pC, pD, pE, pF, pG]
      refine wpAny_take (i := 1) (v := ?_) rfl (by kernel_rfl) (by kernel_rfl) (by kernel_rfl) (fun _ _ _ h => h) (Or.inl ⟨by rfl, ?_⟩) ?_
      rotate_left
      ·intro w'; go_simp <;> with_reducible rfl
      try simp only [Act.put, pC, pD, pE, pF, pG, pH]
      refine wpAny_take (i := 2) (v := ?_) rfl (by kernel_rfl) (by kernel_rfl) (by kernel_rfl) (fun _ _ _ h => h) (Or.inl ⟨by rfl, ?_⟩) ?_
      rotate_left
      ·intro w'; go_simp <;> with_reducible rfl
      try simp only [Act.put, pC, pD, pE, pF, pG, pH]
      refine wpAny_take (i := 3) (v := ?_) rfl (by kernel_rfl) (by kernel_rfl) (by kernel_rfl) (fun _ _ _ h => h) (Or.inl ⟨by rfl, ?_⟩) ?_
      rotate_left
      ·intro w'; go_simp <;> with_reducible rfl
      try simp only [Act.put, pC, pD, pE, pF, pG, pH]
      refine wpAny_take (i := 5) (v := ?_) rfl (by kernel_rfl) (by kernel_rfl) (by kernel_rfl) (fun _ _ _ h => h) (Or.inl ⟨by rfl, ?_⟩) ?_
      rotate_left
      ·intro w'; go_simp <;> with_reducible rfl
      try simp only [Act.put, pC, pD, pE, pF, pG, pH]
      refine wpAny_take (i := 6) (v := ?_) rfl (by kernel_rfl) (by kernel_rfl) (by kernel_rfl) (fun _ _ _ h => h) (Or.inl ⟨by rfl, ?_⟩) ?_
      rotate_left
      ·intro w'; go_simp <;> with_reducible rfl
      try simp only [Act.put, pC, pD, pE, pF, pG, pH]
      refine wpAny_ready (rs := [4, 7]) (by kernel_rfl) (by simp) ?_
      refine AllReady.cons rfl (fun KK hK => ?_) (AllReady.cons rfl (fun KK hK => ?_) AllReady.nil)
      ·rw [if_pos (by rfl)]
       go_simp
       refine hK _ _ ?_
       clear hK KK
       try simp only [Act.put, pC, pD, pE, pF, pG, pH]
       refine wpAny_ready (rs := [7]) (by kernel_rfl) (by simp) ?_
       refine AllReady.cons rfl (fun KK hK => ?_) AllReady.nil
       rw [if_pos (by rfl)]
       go_simp
       refine hK _ _ ?_
       clear hK KK
       try simp only [Act.put, pC, pD, pE, pF, pG, pH]
       refine wpAny_take (i := 8) (v := ?_) rfl (by kernel_rfl) (by kernel_rfl) (by kernel_rfl) (fun _ _ _ h => h) (Or.inl ⟨by rfl, ?_⟩) ?_
       rotate_left
       ·intro w'; go_simp <;> with_reducible rfl
       try simp only [Act.put, pC, pD, pE, pF, pG, pH]
       refine wpAny_ready (rs := [9]) (by kernel_rfl) (by simp) ?_
       refine AllReady.cons rfl (fun KK hK => ?_) AllReady.nil
       rw [if_pos (by rfl)]
       go_simp
       refine hK _ _ ?_
       clear hK KK
       try simp only [Act.put, pC, pD, pE, pF, pG, pH]
       refine wpAny_ready (rs := [10]) (by kernel_rfl) (by simp) ?_
       refine AllReady.cons rfl (fun KK hK => ?_) AllReady.nil
       rw [if_pos (by rfl)]
       refine wp_app1 (.tmp 51) (.tmp 60) rfl base L _ (cr K c N B L) (bits .xor .u8 z xx) x0 rfl rfl HD.out.1 (by omega) HD.out.2.1 HD.out.2.2.1 ?_
       intro v2 w2 HA2
       refine hK _ _ ?_
       clear hK KK
       try simp only [Act.put, pC, pD, pE, pF, pG, pH]
       refine wpAny_take (i := 11) (v := ?_) rfl (by kernel_rfl) (by kernel_rfl) (by kernel_rfl) (fun _ _ _ h => h) (Or.inl ⟨by rfl, ?_⟩) ?_
       rotate_left
       ·intro w'; go_simp <;> with_reducible rfl
       try simp only [Act.put, pC, pD, pE, pF, pG, pH]
       refine wpAny_done (by kernel_rfl) ?_ _
       have HE : Box (w2.ownsRow base 5 1 v2 (L + 1) ((cr K c N B (L + 1)).map (Value.int .u8)) /\ Below base x0 w2 /\ base <= w2.heap.size /\ w2.heap[G]? = some (.cells (u8s X) 142 (0, 0))) := ⟨by rw [HCR.out]; exact HA2.out.1, HA2.out.2.1, HA2.out.2.2.1, HA2.out.2.2.2 G _ HD.out.2.2.2⟩
       clear HA2 HD cz cx
       go_wp2
       go_roundw
       case rel => exact ⟨i + 1, L + 1, by omega, by omega, by go_num, HE⟩
       case measure => simp [intOf]; omega
      ·rw [if_pos (by rfl)]
       go_simp
       refine hK _ _ ?_
       clear hK KK
       try simp only [Act.put, pC, pD, pE, pF, pG, pH]
       refine wpAny_ready (rs := [4]) (by kernel_rfl) (by simp) ?_
       refine AllReady.cons rfl (fun KK hK => ?_) AllReady.nil
       rw [if_pos (by rfl)]
       go_simp
       refine hK _ _ ?_
       clear hK KK
       try simp only [Act.put, pC, pD, pE, pF, pG, pH]
       refine wpAny_take (i := 8) (v := ?_) rfl (by kernel_rfl) (by kernel_rfl) (by kernel_rfl) (fun _ _ _ h => h) (Or.inl ⟨by rfl, ?_⟩) ?_
       rotate_left
       ·intro w'; go_simp <;> with_reducible rfl
       try simp only [Act.put, pC, pD, pE, pF, pG, pH]
       refine wpAny_ready (rs := [9]) (by kernel_rfl) (by simp) ?_
       refine AllReady.cons rfl (fun KK hK => ?_) AllReady.nil
       rw [if_pos (by rfl)]
       go_simp
       refine hK _ _ ?_
       clear hK KK
       try simp only [Act.put, pC, pD, pE, pF, pG, pH]
       refine wpAny_ready (rs := [10]) (by kernel_rfl) (by simp) ?_
       refine AllReady.cons rfl (fun KK hK => ?_) AllReady.nil
       rw [if_pos (by rfl)]
       refine wp_app1 (.tmp 51) (.tmp 60) rfl base L _ (cr K c N B L) (bits .xor .u8 z xx) x0 rfl rfl HD.out.1 (by omega) HD.out.2.1 HD.out.2.2.1 ?_
       intro v2 w2 HA2
       refine hK _ _ ?_
       clear hK KK
       try simp only [Act.put, pC, pD, pE, pF, pG, pH]
       refine wpAny_take (i := 11) (v := ?_) rfl (by kernel_rfl) (by kernel_rfl) (by kernel_rfl) (fun _ _ _ h => h) (Or.inl ⟨by rfl, ?_⟩) ?_
       rotate_left
       ·intro w'; go_simp <;> with_reducible rfl
       try simp only [Act.put, pC, pD, pE, pF, pG, pH]
       refine wpAny_done (by kernel_rfl) ?_ _
       have HE : Box (w2.ownsRow base 5 1 v2 (L + 1) ((cr K c N B (L + 1)).map (Value.int .u8)) /\ Below base x0 w2 /\ base <= w2.heap.size /\ w2.heap[G]? = some (.cells (u8s X) 142 (0, 0))) := ⟨by rw [HCR.out]; exact HA2.out.1, HA2.out.2.1, HA2.out.2.2.1, HA2.out.2.2.2 G _ HD.out.2.2.2⟩
       clear HA2 HD cz cx
       go_wp2
       go_roundw
       case rel => exact ⟨i + 1, L + 1, by omega, by omega, by go_num, HE⟩
       case measure => simp [intOf]; omega
     ·have HE : Box (L = min (64 * k + (i + 1)) len) := ⟨by have := HL.out; omega⟩
      have e6 : ¬ (p : Int) < (len : Int) := by omega
      clear HL
      go_wp2
      go_roundw
      case rel => exact ⟨i + 1, L, by omega, HE.out, by go_num, HJ⟩
      case measure => simp [intOf]; omega
    ·have HE : Box (L = min (64 * (k + 1)) len) := ⟨by have := HL.out; omega⟩
     have HF : Box (wr.ownsRow base 5 1 (.slice av2 L cv2) L ((cr K c N B L).map (Value.int .u8)) /\ Below base x0 wr /\ base <= wr.heap.size) := ⟨HJ.out.1, HJ.out.2.1, HJ.out.2.2.1⟩
     clear HL HJ
     go_wp2
     go_roundw
     case rel => exact ⟨k + 1, L, by omega, HE.out, by go_num, HF⟩
     case measure => simp [intOf]; omega
  ·have hLl : L = len := by have := HI2.out; omega
   subst hLl
   have HF : Box (Bytes wr av L (cr K c N B L) /\ Below w.heap.size w wr) := ⟨own_bytes HO.out.1 (byt_cr K c N B L), (HP.out wr HO.out.2.1).1.2.2⟩
   clear HO HP HBk HB hL
   go_wp2
   go_ret2
   exact ⟨_, _, rfl, HF.out.1, HF.out.2⟩
end Go.Proofs.YthfobaeafapbnaaDoor.Seal
namespace Go.Proofs.YthfobaeafapbnaaDoor.Seal.Plain
end Go.Proofs.YthfobaeafapbnaaDoor.Seal.Plain
namespace Go.Proofs.YthfobaeafapbnaaDoor.Seal
open Go.RowKit Go.Proofs.YthfobaeafapbnaaDoor.Plain Go.Proofs.YthfobaeafapbnaaDoor.Seal.Plain
end Go.Proofs.YthfobaeafapbnaaDoor.Seal
