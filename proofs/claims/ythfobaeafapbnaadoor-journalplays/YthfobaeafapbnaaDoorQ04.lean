/-
 What the Go method add of package digest's gathering does, for every digest under way and all bytes.
-/
import Derived.Test.YthfobaeafapbnaaDoorQ01
import Derived.Deep.RegionLaw
import Derived.Test.YthfobaeafapbnaaDoorQ02
import Derived.Test.YthfobaeafapbnaaDoorQ03
set_option linter.unusedVariables false
set_option maxRecDepth 100000
namespace Go.Proofs.YthfobaeafapbnaaDoor.Dig
open Go.RowKit Go.Proofs.YthfobaeafapbnaaDoor.Dig.Plain
theorem step_copy_at {P : Program} {ops : Array Oper} {o : Oper} {a : Act} {w : World} {K : Act -> World -> Prop} {Q : Exit -> Act -> World -> Prop} {E : Prop} (hgd : o.guard = none) (d s : Operand) (dT sT : TypeId)
  (ho : o.op = .call { callee := .builtin .copy, args := #[d, s], argTypes := #[dT, sT] }) (elem : TypeId) (hu : P.underlying dT = some (.slice elem)) (hsz : (P.info? elem).map (·.size) = some 1)
  (g off : Nat) (ad : Addr) (dLen dCap sLen sCap : Nat) (hd : a.eval d = .slice (some ⟨g, off, none⟩) dLen dCap) (hs : a.eval s = .slice (some ad) sLen sCap)
  (cur : List Value) (t : TypeId) (hg : w.heap[g]? = some (.cells cur.toArray t (0, 0))) (cs : List Value) (hn : cs.length = Nat.min sLen dLen)
  (hpos : ∀ j v, cs[j]? = some v -> w.cell? (ad.add j) = some v)
  (hfit : off + cs.length <= cur.length) (h1 : ∀ v ∈ cs, v.oneCell' = true)
  (h : K (a.put o.dst (goInt cs.length)) (w.setRow g (splice cur off cs).toArray)) :
  if Region.wanted o (yielded ops a.tmps) = true then Oper.wp P o a w K Q else E := by
 have hw : Region.wanted o (yielded ops a.tmps) = true := by simp [Region.wanted, hgd]
 rw [if_pos hw]
 have hrun := run_copy_row (P := P) w dT sT o.type elem g off dLen dCap ad sLen sCap cur.toArray t cs hu hsz hg hn hpos (by simpa using hfit) h1
 unfold Oper.wp
 simp [execOp, ho, resolve, invoke, builtin, hd, hs, hrun, Result.andThen]
 exact h
theorem slice45 (G held : Nat) (h : held < 64) (x : World) : (Instr.sliceAt 142 (.pointer (some ⟨G, 8, none⟩)) (some (.int .i64 held)) none none).run Tryd.prog x = .ok (.slice (some ⟨G, 8 + held, none⟩) (64 - held) (64 - held)) x := by
 have hlen : Tryd.prog.arrayLen 142 = 64 := by kernel_rfl
 rw [run_sliceAt_array_l (P := Tryd.prog) x 142 ⟨G, 8, none⟩ (by kernel_rfl) .i64 held (by omega) (by rw [hlen]; omega), hlen]
 have hs : (sizeOf (Tryd.prog.elem 142)).run Tryd.prog x = .ok 1 x := by kernel_rfl
 rw [hs, Result.andThen_ok, slicedAt, if_neg (by omega), Addr.add_mid]
 simp
theorem slice22 (ad : Addr) (r cap n : Nat) (h : n <= r) (x : World) : (Instr.slice 63 (.slice (some ad) r cap) (some (.int .i64 n)) none none).run Tryd.prog x = .ok (.slice (some (if cap = n then ad else ad.add n)) (r - n) (cap - n)) x := by
 rw [run_slice_l (P := Tryd.prog) x 63 (some ad) r cap (by kernel_rfl) .i64 n (by omega) (by omega)]
 have hs : (sizeOf (Tryd.prog.elem 63)).run Tryd.prog x = .ok 1 x := by kernel_rfl
 rw [hs, Result.andThen_ok, sliced]
 simp
 split <;> rfl
theorem Tabs.below' {w w' : World} {G : Nat} (h : Tabs w) (hb : But G w w') (hG : 2 <= G) : Tabs w' := by
 have h2 := h.1
 exact ⟨Nat.le_trans h.1 hb.size, fun i hi => (hb.cell (by omega) (by omega)).trans (h.2.1 i hi), fun i hi => (hb.cell (by omega) (by omega)).trans (h.2.2 i hi)⟩
def Gat (w : World) (G : Nat) (M : List Int) (T : Nat) : Prop := ∃ ws B held, w.heap[G]? = some (.cells (gc ws B held T).toArray 144 (0, 0)) /\ Inv M ws B held
set_option maxRecDepth 20000 in
set_option maxHeartbeats 2000000 in
theorem add_any (G len cap : Nat) (a : Option Addr) (L M : List Int) (w : World) (hT : Tabs w) (hG : Gat w G M M.length) (hG2 : 2 <= G) (hb : Bytes w a len L) (hap : 0 < len -> ∀ ad, a = some ad -> ad.block ≠ G) (hl : M.length + len <= 1000000) (hcap : len <= cap) (hcap2 : cap <= 9223372036854775807) :
  Calls Tryd.prog 60 #[.pointer (some ⟨G, 0, none⟩), .slice a len cap] w fun e w' => e = .returned (.tuple #[]) /\ Gat w' G (M ++ L) (M.length + len) /\ But G w w' := by
 obtain ⟨ws, B, held, hg, hI⟩ := hG
 have cT : w.cell? ⟨G, 73, none⟩ = some (.int .u64 M.length) := by rw [cell_of_row _ _ _ _ _ _ hg]; simpa using gc_tot hI.h8 hI.h64 held M.length
 have fT : w.frozen? ⟨G, 73, none⟩ = false := frozen_of_row w _ _ _ 144 hg
 have hlen := hI.h8
 have hGlt : G < w.heap.size := (Array.getElem?_eq_some_iff.1 hg).1
 have HG1 : Hid ((w.setCell ⟨G, 73, none⟩ (.int .u64 ((M.length : Int) + len))).heap[G]? = some (.cells (gc ws B held (M.length + len : Nat)).toArray 144 (0, 0)) /\ But G w (w.setCell ⟨G, 73, none⟩ (.int .u64 ((M.length : Int) + len)))) := by
  refine ⟨?_, (But.refl G w).setCell _ _⟩
  rw [heap_setCell_same w G 73 _ 144 _ hg]
  have := gc_set73 hI.h8 hI.h64 held M.length (M.length + len : Nat)
  simp only [List.setIfInBounds_toArray]
  rw [<- this]; simp
 have HI : Hid _ := hI
 clear hg hI
 obtain ⟨T, HTT⟩ : ∃ T, Hid (M.length + len = T) := ⟨_, rfl⟩
 rw [HTT.out] at HG1
 generalize M.length = m at *
 go_enter Tryd.func60, Tryd.ntmps60
 go_wp2
 generalize w.setCell ⟨G, 73, none⟩ (.int .u64 ((m : Int) + len)) = w1 at HG1 ⊢
 go_loopw [1] (fun v wr => ∃ (k r cap' held : Nat) (a' : Option Addr) (ws B : List Int), Hid (k + r = len /\ Inv (M ++ L.take k) ws B held /\ (0 < r -> ∃ b off, a = some ⟨b, off, none⟩ /\ a' = some ⟨b, off + k, none⟩)) /\ r <= 1000000 /\ r <= cap' /\ cap' <= 9223372036854775807 /\ v = .slice a' r cap' /\ Hid (wr.heap[G]? = some (.cells (gc ws B held T).toArray 144 (0, 0))) /\ Hid (But G w wr)) (fun v _ => match v with | .slice _ n _ => n | _ => 0)
 case atStart =>
  refine ⟨0, len, cap, held, a, ws, B, ⟨by omega, ?_, fun hk => ?_⟩, by omega, by omega, by omega, rfl, HG1.out⟩
  ·simpa using HI.out
  ·obtain ⟨b, off, e, _⟩ := hb.2.2 (by omega)
   exact ⟨b, off, e, by simpa using e⟩
 case round =>
  clear HI HG1 cT fT hlen ws B held
  obtain ⟨k, r, cap', held, a', ws, B, HK, hr1, hr2, hr3, rfl, HG, HB⟩ := hrel
  by_cases hlt : 0 < r
  ·obtain ⟨hk, hI, hadr⟩ := HK.out
   obtain ⟨b, off, ha, rfl⟩ := hadr hlt
   obtain ⟨n, HN⟩ : ∃ n : Nat, Hid (n = Nat.min r (64 - held)) := ⟨_, rfl⟩
   obtain ⟨c, HCc⟩ : ∃ c, Hid (c = (L.drop k).take n) := ⟨_, rfl⟩
   have hheld : held < 64 := by rw [hI.hheld]; omega
   have hLl := hb.1
   have hn0 : 0 < n := by rw [HN.out]; show 0 < min _ _; omega
   have hn1 : n <= r := by rw [HN.out]; exact Nat.min_le_left _ _
   have hn2 : n <= 64 - held := by rw [HN.out]; exact Nat.min_le_right _ _
   have hn3 : n = 64 - held ∨ n = r := by rw [HN.out]; show min _ _ = _ ∨ min _ _ = _; omega
   have hcl : c.length = n := by rw [HCc.out]; simp; omega
   have hbn : b ≠ G := hap (by omega) _ ha
   have cH : wr.cell? ⟨G, 72, none⟩ = some (.int .i64 held) := by rw [cell_of_row _ _ _ _ _ _ HG.out]; simpa using gc_held hI.h8 hI.h64 held T
   have HSRC : Hid (∀ (x : World), But G w x -> ∀ (j : Nat) (v : Value), (c.map (Value.int .u8))[j]? = some v -> x.cell? ((⟨b, off + k, none⟩ : Addr).add j) = some v) := by
    intro x hx j v hj
    obtain ⟨b0, off0, e0, hb0, hc0⟩ := hb.2.2 (by omega)
    rw [ha] at e0
    simp only [Option.some.injEq, Addr.mk.injEq, and_true] at e0
    obtain ⟨rfl, rfl⟩ := e0
    have hjn : j < n := by rw [<- hcl]; simpa using (List.getElem?_eq_some_iff.1 hj).1
    rw [Addr.add_mid, hx.cell hb0 hbn, Nat.add_assoc, hc0 (k + j) (by omega), <- hj]
    rw [HCc.out]
    simp only [List.getElem?_map, List.getElem?_take, hjn, if_true, List.getElem?_drop]
    rw [getD_of_lt L (k + j) (by omega)]; rfl
   have HFIT : Hid (8 + held + (c.map (Value.int .u8)).length <= (gc ws B held T).length) := by
    rw [Hid, length_gc hI.h8 hI.h64, List.length_map, hcl]; omega
   have HONE : Hid (∀ v ∈ c.map (Value.int .u8), v.oneCell' = true) := by intro v hv; simp at hv; obtain ⟨z, _, rfl⟩ := hv; rfl
   have HMIN : Hid ((c.map (Value.int .u8)).length = Nat.min r (64 - held)) := by rw [Hid, List.length_map, hcl, HN.out]
   have HROW : Hid ((wr.drew.setRow G (splice (gc ws B held T) (8 + held) (c.map (Value.int .u8))).toArray).heap[G]? = some (.cells (gc ws (splice B held c) held T).toArray 144 (0, 0)) /\ But G w (wr.drew.setRow G (splice (gc ws B held T) (8 + held) (c.map (Value.int .u8))).toArray)) := by
    refine ⟨?_, HB.out.drew.setRow _⟩
    rw [setRow_heap wr.drew _ _ _ 144 (0, 0) HG.out, gc_splice hI.h8 hI.h64 held _ held c (by omega)]
   have hBd : Hid (But G w wr.drew) := HB.out.drew
   have hsl := slice45 G held hheld
   clear hk hI hadr ha hLl
   go_wp2
   go_region_law (refine step_copy_at rfl (.tmp 25) (.tmp 26) 63 63 rfl 5 Tryd.underlying63 (by kernel_rfl) G (8 + held) ⟨b, off + k, none⟩ (64 - held) (64 - held) r cap' rfl rfl _ 144 HG.out (c.map (Value.int .u8)) HMIN.out (HSRC.out _ hBd.out) HFIT.out HONE.out ?_)
   generalize wr.drew.setRow G (splice (gc ws B held T) (8 + held) (c.map (Value.int .u8))).toArray = x1 at HROW ⊢
   obtain ⟨hk, hI, hadr⟩ := HK.out
   obtain ⟨B', HB'⟩ : ∃ B', Hid (splice B held c = B') := ⟨_, rfl⟩
   rw [HB'.out] at HROW
   have hcb : Byt c := by
    intro i
    rw [HCc.out]
    simp only [List.getD, List.getElem?_take, List.getElem?_drop]
    split
    ·exact hb.2.1 (k + i)
    ·simp
   have h64' : B'.length = 64 := by rw [<- HB'.out, length_splice _ _ _ (by rw [hI.h64]; omega)]; exact hI.h64
   have cH1 : x1.cell? ⟨G, 72, none⟩ = some (.int .i64 held) := by rw [cell_of_row _ _ _ _ _ _ HROW.out.1]; simpa using gc_held hI.h8 h64' held T
   have fH1 : x1.frozen? ⟨G, 72, none⟩ = false := frozen_of_row x1 _ _ _ 144 HROW.out.1
   have HS1 : Hid ((x1.setCell ⟨G, 72, none⟩ (.int .i64 ((held : Int) + n))).heap[G]? = some (.cells (gc ws B' (held + n) T).toArray 144 (0, 0)) /\ But G w (x1.setCell ⟨G, 72, none⟩ (.int .i64 ((held : Int) + n)))) := by
    refine ⟨?_, HROW.out.2.setCell _ _⟩
    rw [heap_setCell_same x1 G 72 _ 144 _ HROW.out.1]
    have := gc_set72 hI.h8 h64' held (held + n) T
    simp only [List.setIfInBounds_toArray]
    rw [<- this]; simp
   have HMC : Hid (M ++ L.take (k + n) = M ++ L.take k ++ c) := by rw [Hid, HCc.out, List.take_add, List.append_assoc]
   have h8 := hI.h8
   have HKL : Hid (k + r = len) := hk
   have HI : Hid _ := hI
   have HAD : Hid (0 < r -> ∃ b_1 off_1, a = some ⟨b_1, off_1, none⟩ /\ some (⟨b, off + k, none⟩ : Addr) = some ⟨b_1, off_1 + k, none⟩) := hadr
   clear hI hadr hk HK HROW HG HB HMIN HFIT HONE HSRC hBd hsl cH hb hap
   have hs22 := slice22 ⟨b, off + k, none⟩ r cap' n hn1
   obtain ⟨ad2, HA2⟩ : ∃ ad2 : Addr, Hid ((if cap' = n then (⟨b, off + k, none⟩ : Addr) else (⟨b, off + k, none⟩ : Addr).add n) = ad2) := ⟨_, rfl⟩
   rw [HA2.out] at hs22
   have HA3 : Hid (0 < r - n -> ad2 = ⟨b, off + (k + n), none⟩) := by
    intro h0
    rw [<- HA2.out, if_neg (by omega), Addr.add_mid, Nat.add_assoc]
   have hsub : ((r - n : Nat) : Int) = (r : Int) - n := by omega
   by_cases hfull : held + n = 64
   ·have hfi : (held : Int) + n = 64 := by omega
    rw [hfi, hfull] at HS1
    have HS2 : Hid ((x1.setCell ⟨G, 72, none⟩ (.int .i64 64)).drew.heap[G]? = some (.cells (gc ws B' 64 T).toArray 144 (0, 0)) /\ But G w (x1.setCell ⟨G, 72, none⟩ (.int .i64 64)).drew) := ⟨HS1.out.1, HS1.out.2.drew⟩
    have HWP := HI.out.wrd
    have hBB : Byt B' := by rw [<- HB'.out]; exact byt_splice _ _ _ (by rw [HI.out.h64, hcl]; omega) HI.out.byt hcb
    have RW : Hid (∀ x : World, x.heap[G]? = some (.cells (gc ws B' 64 T).toArray 144 (0, 0)) -> x.rangeAt G 0 (ws.map (Value.int .u32))) := by
     intro x hx j v hj
     have hj8 : j < 8 := by rw [<- h8]; simpa using (List.getElem?_eq_some_iff.1 hj).1
     rw [cell_of_row _ _ _ _ _ _ hx, <- hj, Nat.zero_add]
     have := gc_words h8 64 T (B := B') j hj8
     simp only [List.getElem?_toArray, this, List.getElem?_map, getD_of_lt ws j (by omega)]; rfl
    have RB : Hid (∀ x : World, x.heap[G]? = some (.cells (gc ws B' 64 T).toArray 144 (0, 0)) -> x.rangeAt G 8 (B'.map (Value.int .u8))) := by
     intro x hx j v hj
     have hj8 : j < 64 := by rw [<- h64']; simpa using (List.getElem?_eq_some_iff.1 hj).1
     rw [cell_of_row _ _ _ _ _ _ hx, <- hj]
     have := gc_last h8 h64' 64 T j hj8
     simp only [List.getElem?_toArray, this, List.getElem?_map, getD_of_lt B' j (by omega)]; rfl
    obtain ⟨ws', HW'⟩ : ∃ ws', Hid (mix ws (sched B' 0) = ws') := ⟨_, rfl⟩
    have h8' : ws'.length = 8 := by rw [<- HW'.out, length_mix]; exact h8
    have RT : Hid (∀ x : World, x.heap[G]? = some (.cells (gc ws B' 64 T).toArray 144 (0, 0)) -> x.there G 0 (u32s ws').size) := by
     intro x hx j hj
     rw [size_u32s, h8'] at hj
     refine ⟨?_, frozen_of_row x _ _ _ 144 hx⟩
     rw [cell_of_row _ _ _ _ _ _ hx, Nat.zero_add]
     have := gc_words h8 64 T (B := B') j hj
     simp [this]
    have SX : Hid (∀ x : World, x.heap[G]? = some (.cells (gc ws B' 64 T).toArray 144 (0, 0)) -> (x.setCells G 0 (u32s ws').toList).heap[G]? = some (.cells (gc ws' B' 64 T).toArray 144 (0, 0))) := by
     intro x hx
     have e : (u32s ws').toList = ws'.map (Value.int .u32) := by simp [u32s]
     rw [e, setCells_row G 144 _ 0 _ x hx (by rw [length_gc h8 h64', List.length_map, h8']; omega), gc_splice0 h8 64 T ws' h8']
    have hTT : Hid (∀ x, But G w x -> Tabs x) := fun x hx => hT.below' hx hG2
    go_wp2
    generalize x1.setCell ⟨G, 72, none⟩ (.int .i64 64) = x2 at HS1 HS2 ⊢
    have RS : Hid ((Tryd.prog.info? 141).map (·.size) = some (ws.map (Value.int .u32)).length) := by rw [Hid, List.length_map, h8]; kernel_rfl
    have RSB : Hid ((Tryd.prog.info? 142).map (·.size) = some (B'.map (Value.int .u8)).length) := by rw [Hid, List.length_map, h64']; kernel_rfl
    have RS' : Hid ((Tryd.prog.info? 141).map (·.size) = some (u32s ws').size) := by rw [Hid, size_u32s, h8']; kernel_rfl
    refine wp_region_any (by kernel_rfl) ?_
    change wpAny _ _ _ _ _ _ _ (World.drew _)
    refine wpAny_take (i := 0) (v := ?_) rfl (by kernel_rfl) (by kernel_rfl) (by kernel_rfl) (fun _ _ _ h => h) (Or.inl ⟨by rfl, ?_⟩) ?_
    rotate_left
    ·intro w'; go_simp <;> with_reducible rfl
    try simp only [Act.put, pC, pD, pE, pF, pG]
    refine wpAny_take (i := 1) (v := ?_) rfl (by kernel_rfl) (by kernel_rfl) (by kernel_rfl) (fun _ _ _ h => h) (Or.inl ⟨by rfl, ?_⟩) ?_
    rotate_left
    ·intro w'; go_simp <;> with_reducible rfl
    try simp only [Act.put, pC, pD, pE, pF, pG, pH]
    refine wpAny_take (i := 2) (v := ?_) rfl (by kernel_rfl) (by kernel_rfl) (by kernel_rfl) (fun _ _ _ h => h) (Or.inl ⟨by rfl, ?_⟩) ?_
    rotate_left
    ·intro w'; go_simp <;> with_reducible rfl
    try simp only [Act.put, pC, pD, pE, pF, pG, pH]
    refine wpAny_take (i := 3) (v := ?_) rfl (by kernel_rfl) (by kernel_rfl) (by kernel_rfl) (fun _ _ _ h => h) (Or.inl ⟨by rfl, ?_⟩) ?_
    rotate_left
    ·intro w'; go_simp <;> with_reducible rfl
    try simp only [Act.put, pC, pD, pE, pF, pG, pH]
    refine wpAny_take (i := 5) (v := ?_) rfl (by kernel_rfl) (by kernel_rfl) (by kernel_rfl) (fun _ _ _ h => h) (Or.inl ⟨by rfl, ?_⟩) ?_
    rotate_left
    ·intro w'; go_simp <;> with_reducible rfl
    try simp only [Act.put, pC, pD, pE, pF, pG, pH]
    refine wpAny_take (i := 6) (v := ?_) rfl (by kernel_rfl) (by kernel_rfl) (by kernel_rfl) (fun _ _ _ h => h) (Or.inl ⟨by rfl, ?_⟩) ?_
    rotate_left
    ·intro w'; go_simp <;> with_reducible rfl
    try simp only [Act.put, pC, pD, pE, pF, pG, pH]
    refine wpAny_take (i := 7) (v := ?_) rfl (by kernel_rfl) (by kernel_rfl) (by kernel_rfl) (fun _ _ _ h => h) (Or.inl ⟨by rfl, ?_⟩) ?_
    rotate_left
    ·intro w'; go_simp <;> with_reducible rfl
    try simp only [Act.put, pC, pD, pE, pF, pG, pH]
    refine wpAny_ready (rs := [4, 8]) (by kernel_rfl) (by simp) ?_
    refine (AllReady.cons rfl (fun K hK => ?_) (AllReady.cons rfl (fun K hK => ?_) AllReady.nil))
    ·rw [if_pos (by rfl)]
     refine wp_load_mid 141 (.tmp 47) rfl G 0 rfl (ws.map (Value.int .u32)) _ (RW.out _ HS2.out.1) Tryd.underlying141 rfl RS.out ?_
     refine hK _ _ ?_
     clear hK K
     try simp only [Act.put, pC, pD, pE, pF, pG, pH]
     refine wpAny_ready (rs := [8]) (by kernel_rfl) (by simp) ?_
     refine (AllReady.cons rfl (fun K hK => ?_) AllReady.nil)
     rw [if_pos (by rfl)]
     refine wp_load_mid 142 (.tmp 51) rfl G 8 rfl (B'.map (Value.int .u8)) _ (RB.out _ HS2.out.1) Tryd.underlying142 rfl RSB.out ?_
     refine hK _ _ ?_
     clear hK K
     try simp only [Act.put, pC, pD, pE, pF, pG, pH]
     refine wpAny_ready (rs := [9]) (by kernel_rfl) (by simp) ?_
     refine (AllReady.cons rfl (fun K hK => ?_) AllReady.nil)
     rw [if_pos (by rfl)]
     go_simp
     refine (schedule_any B' _ h64' hBB).mono ?_
     rintro e w3 ⟨rfl, hb3⟩
     have HS3 : Hid (w3.heap[G]? = some (.cells (gc ws B' 64 T).toArray 144 (0, 0)) /\ But G w w3) := And.intro ((hb3.block G (Array.getElem?_eq_some_iff.1 HS2.out.1).1).trans HS2.out.1) (HS2.out.2.trans (But.of_below hb3))
     clear hb3
     refine hK _ _ ?_
     clear hK K
     try simp only [Act.put, pC, pD, pE, pF, pG, pH]
     refine wpAny_ready (rs := [10]) (by kernel_rfl) (by simp) ?_
     refine (AllReady.cons rfl (fun K hK => ?_) AllReady.nil)
     rw [if_pos (by rfl)]
     go_simp
     refine (mixed_any ws (sched B' 0) _ h8 (length_sched _ _) HWP (wrd_sched _ _ hBB) (hTT.out _ HS3.out.2)).mono ?_
     rintro e w4 ⟨rfl, hb4⟩
     rw [HW'.out]
     have HS4 : Hid (w4.heap[G]? = some (.cells (gc ws B' 64 T).toArray 144 (0, 0)) /\ But G w w4) := And.intro ((hb4.block G (Array.getElem?_eq_some_iff.1 HS3.out.1).1).trans HS3.out.1) (HS3.out.2.trans (But.of_below hb4))
     clear hb4
     refine hK _ _ ?_
     clear hK K
     try simp only [Act.put, pC, pD, pE, pF, pG, pH]
     refine wpAny_take (i := 11) (v := ?_) rfl (by kernel_rfl) (by kernel_rfl) (by kernel_rfl) (fun _ _ _ h => h) (Or.inl ⟨by rfl, ?_⟩) ?_
     rotate_left
     ·intro w'; go_simp <;> with_reducible rfl
     try simp only [Act.put, pC, pD, pE, pF, pG, pH]
     refine wpAny_take (i := 12) (v := ?_) rfl (by kernel_rfl) (by kernel_rfl) (by kernel_rfl) (fun _ _ _ h => h) (Or.inl ⟨by rfl, ?_⟩) ?_
     rotate_left
     ·intro w'; go_simp <;> with_reducible rfl
     try simp only [Act.put, pC, pD, pE, pF, pG, pH]
     refine wpAny_ready (rs := [13]) (by kernel_rfl) (by simp) ?_
     refine AllReady.cons rfl (fun K hK => ?_) AllReady.nil
     rw [if_pos (by rfl)]
     refine wp_store_mid 141 (.tmp 56) (.tmp 54) rfl G 0 (u32s ws') rfl rfl (RT.out _ HS4.out.1) RS'.out (all_u32s _) ?_
     refine hK _ _ ?_
     clear hK K
     refine wpAny_done (by kernel_rfl) ?_ _
     have HX5 : Hid ((w4.setCells G 0 (u32s ws').toList).heap[G]? = some (.cells (gc ws' B' 64 T).toArray 144 (0, 0)) /\ But G w (w4.setCells G 0 (u32s ws').toList)) := ⟨SX.out _ HS4.out.1, But.setCells _ _ HS4.out.2⟩
     generalize w4.setCells G 0 (u32s ws').toList = x5 at HX5 ⊢
     have c5 : x5.cell? ⟨G, 72, none⟩ = some (.int .i64 64) := by rw [cell_of_row _ _ _ _ _ _ HX5.out.1]; simpa using gc_held h8' h64' 64 T
     have f5 : x5.frozen? ⟨G, 72, none⟩ = false := frozen_of_row x5 _ _ _ 144 HX5.out.1
     have HS5 : Hid ((x5.setCell ⟨G, 72, none⟩ (.int .i64 0)).heap[G]? = some (.cells (gc ws' B' 0 T).toArray 144 (0, 0)) /\ But G w (x5.setCell ⟨G, 72, none⟩ (.int .i64 0))) := by
      refine ⟨?_, HX5.out.2.setCell _ _⟩
      rw [heap_setCell_same x5 G 72 _ 144 _ HX5.out.1]
      have := gc_set72 h8' h64' 64 0 T
      simp only [List.setIfInBounds_toArray]
      rw [<- this]; simp
     go_wp2
     go_roundw
     case rel =>
      have hkl : k + r = len := HKL.out
      refine ⟨k + n, r - n, cap' - n, 0, some ad2, ws', B', ⟨by omega, ?_, fun h0 => ?_⟩, by omega, by omega, by omega, rfl, HS5.out⟩
      ·rw [HMC.out, <- HW'.out, <- HB'.out]
       exact HI.out.full c hcb (by omega)
      ·obtain ⟨b1, off1, e1, e2⟩ := HAD.out hlt
       simp only [Option.some.injEq, Addr.mk.injEq, and_true] at e2
       obtain ⟨rfl, e3⟩ := e2
       obtain rfl : off = off1 := by omega
       exact ⟨_, _, e1, by rw [HA3.out h0]⟩
     case measure => simp; omega
    ·rw [if_pos (by rfl)]
     refine wp_load_mid 142 (.tmp 51) rfl G 8 rfl (B'.map (Value.int .u8)) _ (RB.out _ HS2.out.1) Tryd.underlying142 rfl RSB.out ?_
     refine hK _ _ ?_
     clear hK K
     try simp only [Act.put, pC, pD, pE, pF, pG, pH]
     refine wpAny_ready (rs := [4, 9]) (by kernel_rfl) (by simp) ?_
     refine (AllReady.cons rfl (fun K hK => ?_) (AllReady.cons rfl (fun K hK => ?_) AllReady.nil))
     ·rw [if_pos (by rfl)]
      refine wp_load_mid 141 (.tmp 47) rfl G 0 rfl (ws.map (Value.int .u32)) _ (RW.out _ HS2.out.1) Tryd.underlying141 rfl RS.out ?_
      refine hK _ _ ?_
      clear hK K
      try simp only [Act.put, pC, pD, pE, pF, pG, pH]
      refine wpAny_ready (rs := [9]) (by kernel_rfl) (by simp) ?_
      refine (AllReady.cons rfl (fun K hK => ?_) AllReady.nil)
      rw [if_pos (by rfl)]
      go_simp
      refine (schedule_any B' _ h64' hBB).mono ?_
      rintro e w3 ⟨rfl, hb3⟩
      have HS3 : Hid (w3.heap[G]? = some (.cells (gc ws B' 64 T).toArray 144 (0, 0)) /\ But G w w3) := And.intro ((hb3.block G (Array.getElem?_eq_some_iff.1 HS2.out.1).1).trans HS2.out.1) (HS2.out.2.trans (But.of_below hb3))
      clear hb3
      refine hK _ _ ?_
      clear hK K
      try simp only [Act.put, pC, pD, pE, pF, pG, pH]
      refine wpAny_ready (rs := [10]) (by kernel_rfl) (by simp) ?_
      refine (AllReady.cons rfl (fun K hK => ?_) AllReady.nil)
      rw [if_pos (by rfl)]
      go_simp
      refine (mixed_any ws (sched B' 0) _ h8 (length_sched _ _) HWP (wrd_sched _ _ hBB) (hTT.out _ HS3.out.2)).mono ?_
      rintro e w4 ⟨rfl, hb4⟩
      rw [HW'.out]
      have HS4 : Hid (w4.heap[G]? = some (.cells (gc ws B' 64 T).toArray 144 (0, 0)) /\ But G w w4) := And.intro ((hb4.block G (Array.getElem?_eq_some_iff.1 HS3.out.1).1).trans HS3.out.1) (HS3.out.2.trans (But.of_below hb4))
      clear hb4
      refine hK _ _ ?_
      clear hK K
      try simp only [Act.put, pC, pD, pE, pF, pG, pH]
      refine wpAny_take (i := 11) (v := ?_) rfl (by kernel_rfl) (by kernel_rfl) (by kernel_rfl) (fun _ _ _ h => h) (Or.inl ⟨by rfl, ?_⟩) ?_
      rotate_left
      ·intro w'; go_simp <;> with_reducible rfl
      try simp only [Act.put, pC, pD, pE, pF, pG, pH]
      refine wpAny_take (i := 12) (v := ?_) rfl (by kernel_rfl) (by kernel_rfl) (by kernel_rfl) (fun _ _ _ h => h) (Or.inl ⟨by rfl, ?_⟩) ?_
      rotate_left
      ·intro w'; go_simp <;> with_reducible rfl
      try simp only [Act.put, pC, pD, pE, pF, pG, pH]
      refine wpAny_ready (rs := [13]) (by kernel_rfl) (by simp) ?_
      refine AllReady.cons rfl (fun K hK => ?_) AllReady.nil
      rw [if_pos (by rfl)]
      refine wp_store_mid 141 (.tmp 56) (.tmp 54) rfl G 0 (u32s ws') rfl rfl (RT.out _ HS4.out.1) RS'.out (all_u32s _) ?_
      refine hK _ _ ?_
      clear hK K
      refine wpAny_done (by kernel_rfl) ?_ _
      have HX5 : Hid ((w4.setCells G 0 (u32s ws').toList).heap[G]? = some (.cells (gc ws' B' 64 T).toArray 144 (0, 0)) /\ But G w (w4.setCells G 0 (u32s ws').toList)) := ⟨SX.out _ HS4.out.1, But.setCells _ _ HS4.out.2⟩
      generalize w4.setCells G 0 (u32s ws').toList = x5 at HX5 ⊢
      have c5 : x5.cell? ⟨G, 72, none⟩ = some (.int .i64 64) := by rw [cell_of_row _ _ _ _ _ _ HX5.out.1]; simpa using gc_held h8' h64' 64 T
      have f5 : x5.frozen? ⟨G, 72, none⟩ = false := frozen_of_row x5 _ _ _ 144 HX5.out.1
      have HS5 : Hid ((x5.setCell ⟨G, 72, none⟩ (.int .i64 0)).heap[G]? = some (.cells (gc ws' B' 0 T).toArray 144 (0, 0)) /\ But G w (x5.setCell ⟨G, 72, none⟩ (.int .i64 0))) := by
       refine ⟨?_, HX5.out.2.setCell _ _⟩
       rw [heap_setCell_same x5 G 72 _ 144 _ HX5.out.1]
       have := gc_set72 h8' h64' 64 0 T
       simp only [List.setIfInBounds_toArray]
       rw [<- this]; simp
      go_wp2
      go_roundw
      case rel =>
       have hkl : k + r = len := HKL.out
       refine ⟨k + n, r - n, cap' - n, 0, some ad2, ws', B', ⟨by omega, ?_, fun h0 => ?_⟩, by omega, by omega, by omega, rfl, HS5.out⟩
       ·rw [HMC.out, <- HW'.out, <- HB'.out]
        exact HI.out.full c hcb (by omega)
       ·obtain ⟨b1, off1, e1, e2⟩ := HAD.out hlt
        simp only [Option.some.injEq, Addr.mk.injEq, and_true] at e2
        obtain ⟨rfl, e3⟩ := e2
        obtain rfl : off = off1 := by omega
        exact ⟨_, _, e1, by rw [HA3.out h0]⟩
      case measure => simp; omega
     ·rw [if_pos (by rfl)]
      go_simp
      refine (schedule_any B' _ h64' hBB).mono ?_
      rintro e w3 ⟨rfl, hb3⟩
      have HS3 : Hid (w3.heap[G]? = some (.cells (gc ws B' 64 T).toArray 144 (0, 0)) /\ But G w w3) := And.intro ((hb3.block G (Array.getElem?_eq_some_iff.1 HS2.out.1).1).trans HS2.out.1) (HS2.out.2.trans (But.of_below hb3))
      clear hb3
      refine hK _ _ ?_
      clear hK K
      try simp only [Act.put, pC, pD, pE, pF, pG, pH]
      refine wpAny_ready (rs := [4]) (by kernel_rfl) (by simp) ?_
      refine (AllReady.cons rfl (fun K hK => ?_) AllReady.nil)
      rw [if_pos (by rfl)]
      refine wp_load_mid 141 (.tmp 47) rfl G 0 rfl (ws.map (Value.int .u32)) _ (RW.out _ HS3.out.1) Tryd.underlying141 rfl RS.out ?_
      refine hK _ _ ?_
      clear hK K
      try simp only [Act.put, pC, pD, pE, pF, pG, pH]
      refine wpAny_ready (rs := [10]) (by kernel_rfl) (by simp) ?_
      refine (AllReady.cons rfl (fun K hK => ?_) AllReady.nil)
      rw [if_pos (by rfl)]
      go_simp
      refine (mixed_any ws (sched B' 0) _ h8 (length_sched _ _) HWP (wrd_sched _ _ hBB) (hTT.out _ HS3.out.2)).mono ?_
      rintro e w4 ⟨rfl, hb4⟩
      rw [HW'.out]
      have HS4 : Hid (w4.heap[G]? = some (.cells (gc ws B' 64 T).toArray 144 (0, 0)) /\ But G w w4) := And.intro ((hb4.block G (Array.getElem?_eq_some_iff.1 HS3.out.1).1).trans HS3.out.1) (HS3.out.2.trans (But.of_below hb4))
      clear hb4
      refine hK _ _ ?_
      clear hK K
      try simp only [Act.put, pC, pD, pE, pF, pG, pH]
      refine wpAny_take (i := 11) (v := ?_) rfl (by kernel_rfl) (by kernel_rfl) (by kernel_rfl) (fun _ _ _ h => h) (Or.inl ⟨by rfl, ?_⟩) ?_
      rotate_left
      ·intro w'; go_simp <;> with_reducible rfl
      try simp only [Act.put, pC, pD, pE, pF, pG, pH]
      refine wpAny_take (i := 12) (v := ?_) rfl (by kernel_rfl) (by kernel_rfl) (by kernel_rfl) (fun _ _ _ h => h) (Or.inl ⟨by rfl, ?_⟩) ?_
      rotate_left
      ·intro w'; go_simp <;> with_reducible rfl
      try simp only [Act.put, pC, pD, pE, pF, pG, pH]
      refine wpAny_ready (rs := [13]) (by kernel_rfl) (by simp) ?_
      refine AllReady.cons rfl (fun K hK => ?_) AllReady.nil
      rw [if_pos (by rfl)]
      refine wp_store_mid 141 (.tmp 56) (.tmp 54) rfl G 0 (u32s ws') rfl rfl (RT.out _ HS4.out.1) RS'.out (all_u32s _) ?_
      refine hK _ _ ?_
      clear hK K
      refine wpAny_done (by kernel_rfl) ?_ _
      have HX5 : Hid ((w4.setCells G 0 (u32s ws').toList).heap[G]? = some (.cells (gc ws' B' 64 T).toArray 144 (0, 0)) /\ But G w (w4.setCells G 0 (u32s ws').toList)) := ⟨SX.out _ HS4.out.1, But.setCells _ _ HS4.out.2⟩
      generalize w4.setCells G 0 (u32s ws').toList = x5 at HX5 ⊢
      have c5 : x5.cell? ⟨G, 72, none⟩ = some (.int .i64 64) := by rw [cell_of_row _ _ _ _ _ _ HX5.out.1]; simpa using gc_held h8' h64' 64 T
      have f5 : x5.frozen? ⟨G, 72, none⟩ = false := frozen_of_row x5 _ _ _ 144 HX5.out.1
      have HS5 : Hid ((x5.setCell ⟨G, 72, none⟩ (.int .i64 0)).heap[G]? = some (.cells (gc ws' B' 0 T).toArray 144 (0, 0)) /\ But G w (x5.setCell ⟨G, 72, none⟩ (.int .i64 0))) := by
       refine ⟨?_, HX5.out.2.setCell _ _⟩
       rw [heap_setCell_same x5 G 72 _ 144 _ HX5.out.1]
       have := gc_set72 h8' h64' 64 0 T
       simp only [List.setIfInBounds_toArray]
       rw [<- this]; simp
      go_wp2
      go_roundw
      case rel =>
       have hkl : k + r = len := HKL.out
       refine ⟨k + n, r - n, cap' - n, 0, some ad2, ws', B', ⟨by omega, ?_, fun h0 => ?_⟩, by omega, by omega, by omega, rfl, HS5.out⟩
       ·rw [HMC.out, <- HW'.out, <- HB'.out]
        exact HI.out.full c hcb (by omega)
       ·obtain ⟨b1, off1, e1, e2⟩ := HAD.out hlt
        simp only [Option.some.injEq, Addr.mk.injEq, and_true] at e2
        obtain ⟨rfl, e3⟩ := e2
        obtain rfl : off = off1 := by omega
        exact ⟨_, _, e1, by rw [HA3.out h0]⟩
      case measure => simp; omega
   ·have hfi : ¬ (held : Int) + n = 64 := by omega
    go_wp2
    go_roundw
    case rel =>
     have hkl : k + r = len := HKL.out
     refine ⟨k + n, r - n, cap' - n, held + n, some ad2, ws, B', ⟨by omega, ?_, fun h0 => ?_⟩, by omega, by omega, by omega, rfl, HS1.out⟩
     ·rw [HMC.out, <- HB'.out, <- hcl]
      exact HI.out.part c hcb (by omega)
     ·obtain ⟨b1, off1, e1, e2⟩ := HAD.out hlt
      simp only [Option.some.injEq, Addr.mk.injEq, and_true] at e2
      obtain ⟨rfl, e3⟩ := e2
      obtain rfl : off = off1 := by omega
      exact ⟨_, _, e1, by rw [HA3.out h0]⟩
    case measure => simp; omega
  ·obtain ⟨hk, hI, _⟩ := HK.out
   obtain rfl : r = 0 := by omega
   obtain rfl : k = len := by omega
   have HL : Hid (M ++ L.take k = M ++ L) := by rw [Hid, List.take_of_length_le (by rw [hb.1]; exact Nat.le_refl _)]
   have HF : Hid (Gat wr G (M ++ L) (m + k) /\ But G w wr) := by
    refine ⟨⟨ws, B, held, ?_, ?_⟩, HB.out⟩
    ·rw [HTT.out]; exact HG.out
    ·rw [<- HL.out]; exact hI
   clear hk hI HK HG HB
   go_wp2
   go_end0
   exact ⟨rfl, HF.out⟩
end Go.Proofs.YthfobaeafapbnaaDoor.Dig
