/-
  What Load of package replay answers, where journal.New takes what it is handed and the disk is up. And what follows it.
-/
import Derived.Test.YteaejodihmnbcaaDoorQ29
import Derived.Test.YteaejodihmnbcaaDoorQ17
import Derived.Test.YteaejodihmnbcaaDoorQ23
namespace Go.Proofs.YteaejodihmnbcaaDoor
set_option maxRecDepth 100000
set_option linter.unusedVariables false
open Go.RowKit Plain
attribute [local go_sem] Oper.semAt_some
/-- The slots that count, and whether they are those that were written. -/
def lds (d : Disk.Dk) (f n : Nat) (s : Jst) : List (Nat × List Int) := (pcs f n s.start s.count).map fun p => (p, Disk.lat d p)
def LGood (d : Disk.Dk) (K : List Int) (f n : Nat) (s : Jst) : Prop := chn (lds d f n s) = s.tag ∧ Good K (lds d f n s)
/-- The changes that are told. -/
def ldC (d : Disk.Dk) (K : List Int) (f n : Nat) (s : Jst) : List (List (Int × List Int)) := (chS ((lds d f n s).map (opR K))).1
theorem slice_sum (g o : Nat) (x : World) : (Instr.sliceAt 39 (.pointer (some ⟨g, o, none⟩)) none none none).run Tryd.prog x = .ok (.slice (some ⟨g, o, none⟩) 32 32) x := by kernel_rfl
theorem bytes_mid {w : World} {g o : Nat} {cs : Array Value} {t : TypeId} {fr : Nat × Nat} (h : w.heap[g]? = some (.cells cs t fr)) (L : List Int) (hL : L.length = 32) (hb : Byt L) (hc : ∀ i, i < 32 → cs[o + i]? = some (.int .u8 (L.getD i 0))) : Bytes w (some ⟨g, o, none⟩) 32 L :=
  ⟨hL, hb, fun _ => ⟨g, o, rfl, (Array.getElem?_eq_some_iff.1 h).1, fun i hi => by rw [cell_of_row _ _ _ _ _ _ h]; exact hc i hi⟩⟩
/-- Changes stay where nothing of theirs turns. -/
theorem Chs.same {w w' : World} {B : Nat} {v : Value} {C : List Sx} (h : Chs w B v C) (hs : ∀ k, B ≤ k → k < w.heap.size → w'.heap[k]? = w.heap[k]?) (hz : w.heap.size ≤ w'.heap.size) : Chs w' B v C := by
  refine ⟨own_same h.row (fun k hk => hs k (own_blk h.row k hk).1 (h.row.lt k hk).2), fun c hc => ?_⟩
  obtain ⟨r1, ⟨g, p, r2, r3, r4, r5⟩, r6⟩ := h.im c hc
  refine ⟨r1, ⟨g, p, r2, Nat.lt_of_lt_of_le r3 hz, r4, fun i hi j v hv => (World.cell?_of_block (hs g r2 r3)).trans (r5 i hi j v hv)⟩, fun m hm => ?_⟩
  have o := r6 m hm
  exact ⟨own_same o.own (fun k hk => hs k (own_blk o.own k hk).1 (o.own.lt k hk).2), o.byt, o.num⟩
theorem Chs.igss {w : World} {B c : Nat} {a : Option Addr} {C : List Sx} (h : Chs w B (.slice a C.length c) C) (hl : ∀ x ∈ C, x.l ≤ maxLen) : Igss w a C := by
  refine ⟨own_tb (fun _ => rfl) h.row rfl, fun x hx => ?_⟩
  obtain ⟨r1, ⟨g, p, r2, r3, r4, r5⟩, r6⟩ := h.im x hx
  exact ⟨r1, ⟨fun _ => ⟨g, p, r4, r3, r5⟩, fun m hm => (r6 m hm).byi⟩, hl x hx⟩
set_option maxHeartbeats 8000000 in
theorem load_v {w0 w : World} {D : Nat} {fp : Nat → Prop} {d : Disk.Dk} (C : Disk.Cx w0 w D fp d) (K : List Int) (hK : K.length = 32 ∧ Byt K) (f n : Nat) (s : Jst) (hs : OkS s) (h1 : 1 ≤ n) (hn1 : n ≤ 1000) (hfit : f + n ≤ d.n) (hdn : d.n ≤ 4096) (hm : may n s = true) (hd : d.down = false) (ho : d.ops.length < 900000) (hu : d.uw.length < 900000) (hT : Dig.Tabs w0) (hT2 : Seal.Tab w0) :
    Calls Tryd.prog 18 #[.pointer (some ⟨D, 0, none⟩), .agg (u8s K), .int .i64 (f : Int), .int .i64 (n : Int), .agg (sa s)] w fun e w' => ∃ fp', Disk.Cx w0 w' D fp' (rdD d (pcs f n s.start s.count)) ∧ Disk.Fol w fp w' fp' ∧ ((¬ LGood d K f n s ∧ e = .returned (.tuple #[.slice none 0 0, .int .i64 14])) ∨ (LGood d K f n s ∧ ∃ u X B, e = .returned (.tuple #[u, .int .i64 0]) ∧ Chs w' B u X ∧ w.heap.size ≤ B ∧ (∀ k, fp' k → k < B) ∧ X.map (fun c => c.M.map pl) = ldC d K f n s)) := by
  have hmm := may_ok hm
  obtain ⟨S, hS⟩ : ∃ S, w.heap.size = S := ⟨_, rfl⟩
  obtain ⟨AK, hAK⟩ : ∃ A, u8s K = A := ⟨_, rfl⟩
  obtain ⟨SA, hSA⟩ : ∃ A, sa s = A := ⟨_, rfl⟩
  obtain ⟨w1, hw1⟩ : ∃ w1, (w.alloc (.cells AK 39)).alloc (.cells SA 48) = w1 := ⟨_, rfl⟩
  have hb1 : Below w.heap.size w w1 := by rw [← hw1]; exact ((Below.refl _ _).alloc (Nat.le_refl _) _).alloc (by simp) _
  have k1 : w1.heap[S]? = some (.cells AK 39 (0, 0)) := by rw [← hw1]; exact al_old (al_at hS)
  have k2 : w1.heap[S + 1]? = some (.cells SA 48 (0, 0)) := by rw [← hw1]; exact al_at (by simp [hS])
  have hs1 : w1.heap.size = S + 2 := by rw [← hw1]; simp [hS]
  have C1 := C.step hb1
  have nS : ∀ i, S ≤ i → ¬ fp i := fun i hi h => by have := C.hi i h; omega
  have HJN : Box (Calls Tryd.prog 14 #[.pointer (some ⟨D, 0, none⟩), .agg AK, .int .i64 (f : Int), .int .i64 (n : Int), .agg SA, .int .u64 1, .int .u64 1] w1 fun e w' => ∃ J, e = .returned (.tuple #[.pointer (some ⟨J, 0, none⟩), .int .i64 0]) ∧ Below w1.heap.size w1 w') := ⟨by
    have := jnew_ok C1 K hK f n h1 hfit hdn s hs hm 1 1 ⟨by omega, by omega⟩ ⟨by omega, by omega⟩ hT hT2
    rw [hAK, hSA] at this
    refine this.mono ?_
    rintro e w' ⟨J, q1, _, q3, _⟩
    exact ⟨J, q1, q3⟩⟩
  have HRD : Box (∀ y, Below w1.heap.size w1 y → Calls Tryd.prog 35 #[.pointer (some ⟨D, 0, none⟩), .int .u64 (f : Int), .int .u64 (n : Int), .agg SA] y fun e w' => ∃ v X fp', e = .returned (.tuple #[v, .int .i64 0]) ∧ Slots w' y.heap.size v X ∧ X.map spl = lds d f n s ∧ Disk.Cx w0 w' D fp' (rdD d (pcs f n s.start s.count)) ∧ Disk.Fol y fp w' fp') := ⟨fun y hy => by
    have := read_v (C1.step hy) f n s h1 hfit hdn hm hd ho hu
    rw [hSA] at this
    exact this⟩
  have HKP : Box (∀ y z fp', Below w1.heap.size w1 y → Disk.Fol y fp z fp' → z.heap[S]? = some (.cells AK 39 (0, 0)) ∧ z.heap[S + 1]? = some (.cells SA 48 (0, 0))) := ⟨fun y z fp' hy hz => by
    have hz1 := hy.size
    exact ⟨(hz.t.block S (by omega) (nS S (Nat.le_refl _))).trans ((hy.block S (by omega)).trans k1), (hz.t.block (S + 1) (by omega) (nS _ (by omega))).trans ((hy.block (S + 1) (by omega)).trans k2)⟩⟩
  have HR1 : Box ((∀ y : World, y.heap[S]? = some (.cells AK 39 (0, 0)) → y.rangeAt S 0 (K.map (Value.int .u8))) ∧ (Tryd.prog.info? 39).map (·.size) = some (K.map (Value.int .u8)).length ∧ (K.map (Value.int .u8)).toArray = AK ∧ (∀ y : World, y.heap[S + 1]? = some (.cells SA 48 (0, 0)) → y.rangeAt (S + 1) 0 (scs s) ∧ Bytes y (some ⟨S + 1, 2, none⟩) 32 s.tag) ∧ (Tryd.prog.info? 48).map (·.size) = some (scs s).length ∧ (scs s).toArray = SA) := ⟨fun y hy => by rw [← hAK] at hy; exact range_u8 hy, by rw [List.length_map, hK.1]; exact infoSum, by rw [← hAK]; rfl, fun y hy => by
    rw [← hSA] at hy
    refine ⟨range_sa hy, bytes_mid hy s.tag hs.lt hs.bt (fun i hi => ?_)⟩
    have hi2 : i < s.tag.length := by rw [hs.lt]; exact hi
    rw [show 2 + i = i + 1 + 1 by omega]
    simp [sa, scs, List.getD, hi2], by rw [len_scs hs]; exact infoSt, by rw [← hSA]; rfl⟩
  have HCH : Box (∀ y B v X, Below w0.heap.size w0 y → Slots y B v X → X.map spl = lds d f n s → Calls Tryd.prog 36 #[v] y fun e w' => e = .returned (.agg (u8s (chn (lds d f n s)))) ∧ Below y.heap.size y w') := ⟨fun y B v X hy hX he => by
    have := chain_v hX (hT.below hy) (by have := congrArg List.length he; simp [lds, pcs] at this; omega)
    rw [he] at this
    exact this⟩
  have HCG : Box (∀ y B v X, Below w0.heap.size w0 y → Slots y B v X → X.map spl = lds d f n s → Calls Tryd.prog 38 #[.agg AK, v] y fun e w' => ((¬ Good K (lds d f n s) ∧ e = .returned (.tuple #[.slice none 0 0, .int .i64 14])) ∨ (Good K (lds d f n s) ∧ ∃ u C, e = .returned (.tuple #[u, .int .i64 0]) ∧ Chs w' y.heap.size u C ∧ C.map (fun c => c.M.map pl) = ldC d K f n s)) ∧ Below y.heap.size y w') := ⟨fun y B v X hy hX he => by
    have := changes_v hX (hT2.below hy) K hK (by have := congrArg List.length he; simp [lds, pcs] at this; omega)
    rw [he, hAK] at this
    exact this⟩
  have HFO : Box (∀ y z z2 fp', Below w1.heap.size w1 y → Disk.Fol y fp z fp' → Disk.Cx w0 z D fp' (rdD d (pcs f n s.start s.count)) → Below z.heap.size z z2 → Disk.Cx w0 z2 D fp' (rdD d (pcs f n s.start s.count)) ∧ Disk.Fol w fp z2 fp' ∧ w.heap.size ≤ z.heap.size) := ⟨fun y z z2 fp' hy hz hc hz2 => by
    have hb := below_to hb1 hy
    refine ⟨hc.step hz2, fol_trans ⟨Disk.Turned.of_below hb, fun _ _ h => h⟩ (fol_trans hz ⟨Disk.Turned.of_below hz2, fun _ _ h => h⟩), ?_⟩
    have := hb.size
    have := hz.t.size
    omega⟩
  have HSS : Box (w.heap.size = S) := ⟨hS⟩
  have hs2 : (w.alloc (.cells AK 39)).heap.size = S + 1 := by simp [hS]
  have hwf : IntKind.u64.wrap (f : Int) = (f : Int) := by rw [IntKind.wrap_u64]; omega
  have hwn : IntKind.u64.wrap (n : Int) = (n : Int) := by rw [IntKind.wrap_u64]; omega
  have hw1r : Box (w1.heap[S]? = some (.cells AK 39 (0, 0)) ∧ w1.heap[S + 1]? = some (.cells SA 48 (0, 0)) ∧ w1.heap.size = S + 2) := ⟨k1, k2, hs1⟩
  obtain ⟨LL, hLL⟩ : ∃ L, lds d f n s = L := ⟨_, rfl⟩
  obtain ⟨Tg, hTg⟩ : ∃ T, chn LL = T := ⟨_, rfl⟩
  have HTG : Box (chn (lds d f n s) = Tg ∧ Tg.length = 32 ∧ Byt Tg ∧ s.tag.length = 32) := ⟨by rw [hLL]; exact hTg, by rw [← hTg]; exact (chn_len _).1, by rw [← hTg]; exact (chn_len _).2, hs.lt⟩
  rw [hAK, hSA]
  rw [HTG.out.1] at HCH
  have HTS : Box ((Tryd.prog.info? 39).map (·.size) = some (u8s Tg).size ∧ (u8s z32).size = (u8s Tg).size) := ⟨by rw [size_u8s, HTG.out.2.1]; exact infoSum, by rw [size_u8s, size_u8s, HTG.out.2.1, len_z32]⟩
  clear C hK hs h1 hn1 hfit hdn hm hd ho hu hT hT2 hmm hb1 k1 k2 hs1 C1 nS hS hAK hSA hLL hTg
  go_enter Tryd.func18, Tryd.ntmps18
  go_upto_region 1 with fail
  (try rw [hs2])
  (try simp only [HSS.out])
  clear hw1 hs2
  have HRa : Box (w1.rangeAt S 0 (K.map (Value.int .u8)) ∧ w1.rangeAt (S + 1) 0 (scs s)) := ⟨HR1.out.1 w1 hw1r.out.1, (HR1.out.2.2.2.1 w1 hw1r.out.2.1).1⟩
  go_upto_region 4 with (first
    | (refine atLoad 39 ?_; refine wpList_ldMid rfl 39 _ _ rfl Tryd.underlying39 rfl S 0 rfl (K.map (Value.int .u8)) HR1.out.2.1 HRa.out.1 ?_; rw [HR1.out.2.2.1])
    | (refine atLoad 48 ?_; refine wpList_ldMid rfl 48 _ _ rfl Tryd.underlying48 rfl (S + 1) 0 rfl (scs s) HR1.out.2.2.2.2.1 HRa.out.2 ?_; rw [HR1.out.2.2.2.2.2])
    | (go_at_call 14; refine HJN.out.mono ?_; rintro e x1 ⟨J, rfl, hb⟩; have H1 : Box (Below w1.heap.size w1 x1) := ⟨hb⟩; clear hb))
  have HRb : Box (x1.rangeAt (S + 1) 0 (scs s)) := ⟨(HR1.out.2.2.2.1 x1 ((H1.out.block (S + 1) (by have := hw1r.out.2.2; omega)).trans hw1r.out.2.1)).1⟩
  have HRDx : Box _ := ⟨HRD.out x1 H1.out⟩
  clear HRa HRD HJN
  go_upto_region 7 with (first
    | (refine atLoad 48 ?_; refine wpList_ldMid rfl 48 _ _ rfl Tryd.underlying48 rfl (S + 1) 0 rfl (scs s) HR1.out.2.2.2.2.1 HRb.out ?_; rw [HR1.out.2.2.2.2.2])
    | (go_at_call 35; refine HRDx.out.mono ?_; rintro e x2 ⟨v, X, fp2, rfl, q1, q2, q3, q4⟩; have H2 : Box (Slots x2 x1.heap.size v X ∧ X.map spl = lds d f n s ∧ Disk.Cx w0 x2 D fp2 (rdD d (pcs f n s.start s.count)) ∧ Disk.Fol x1 fp x2 fp2) := ⟨q1, q2, q3, q4⟩; clear q1 q2 q3 q4))
  have HCx : Box _ := ⟨HCH.out x2 _ v X H2.out.2.2.1.bel H2.out.1 H2.out.2.1⟩
  have HK2 : Box _ := ⟨HKP.out x1 x2 fp2 H1.out H2.out.2.2.2⟩
  clear HCH HKP HRb HRDx
  go_upto_region 8 with (first
    | (go_at_call 36; refine HCx.out.mono ?_; rintro e x3 ⟨rfl, hb⟩; have H3 : Box (Below x2.heap.size x2 x3) := ⟨hb⟩; clear hb)
    | (refine atAlloc _ ?_; refine wpList_run rfl _ _ (exec_alloc 39 rfl _ zeroSum) ?_)
    | (refine atStore _ ?_; refine wpList_newRow x3 (u8s z32) (u8s Tg) HTS.out.1 HTS.out.2 (all_u8s Tg) rfl _ _ rfl rfl rfl rfl ?_; intro x4 h4 hb4; have H4 : Box (x4.heap[x3.heap.size]? = some (.cells (u8s Tg) 39 (0, 0)) ∧ Below x3.heap.size x3 x4) := ⟨h4, hb4⟩; clear h4 hb4))
  obtain ⟨T, hTt⟩ : ∃ T, x3.heap.size = T := ⟨_, rfl⟩
  (try simp only [hTt])
  have HB4 : Box (Below x2.heap.size x2 x4 ∧ x4.heap[S]? = some (.cells AK 39 (0, 0)) ∧ x4.heap[S + 1]? = some (.cells SA 48 (0, 0)) ∧ x4.heap[T]? = some (.cells (u8s Tg) 39 (0, 0))) := ⟨by
    have hb := below_to H3.out H4.out.2
    have l1 := (Array.getElem?_eq_some_iff.1 HK2.out.1).1
    have l2 := (Array.getElem?_eq_some_iff.1 HK2.out.2).1
    rw [← hTt]
    exact ⟨hb, (hb.block S l1).trans HK2.out.1, (hb.block (S + 1) l2).trans HK2.out.2, H4.out.1⟩⟩
  have HEQ : Box (∀ m, Calls Tryd.prog 37 #[.slice (some ⟨T, 0, none⟩) 32 32, .slice (some ⟨S + 1, 2, none⟩) 32 32] (x4.drewN m) fun e w' => e = .returned (.bool (decide (Tg = s.tag))) ∧ w' = x4.drewN m) := ⟨fun m => by
    have b1 : Bytes (x4.drewN m) (some ⟨T, 0, none⟩) 32 Tg := bytes_mid (w := x4.drewN m) HB4.out.2.2.2 Tg HTG.out.2.1 HTG.out.2.2.1 (fun i hi => by
      have hi2 : i < Tg.length := by rw [HTG.out.2.1]; exact hi
      simp [u8s, List.getD, hi2])
    have b2 : Bytes (x4.drewN m) (some ⟨S + 1, 2, none⟩) 32 s.tag := (HR1.out.2.2.2.1 (x4.drewN m) HB4.out.2.2.1).2
    exact (bytes_any _ _ 32 32 32 32 Tg s.tag _ b1 b2 (by omega) (by omega)).mono fun _ _ ⟨h1, h2⟩ => ⟨h1, h2.symm⟩⟩
  have hsl := slice_sum T 0
  have hsl2 := slice_sum (S + 1) 2
  clear hTt HCx
  by_cases htg : Tg = s.tag
  · have hdt : decide (Tg = s.tag) = true := by simpa using htg
    rw [hdt] at HEQ
    have HTE : Box (chn (lds d f n s) = s.tag) := ⟨HTG.out.1.trans htg⟩
    clear htg hdt
    go_quiet (first | (go_at_call 37; exact Calls.quiet_of_same (HEQ.out _)))
    obtain ⟨x5, hx5⟩ : ∃ x5, x4.drewN nq = x5 := ⟨_, rfl⟩
    have H5 : Box (Below x4.heap.size x4 x5 ∧ x5.heap[S]? = some (.cells AK 39 (0, 0))) := ⟨by rw [← hx5]; exact below_drewN (Below.refl _ _) nq, by rw [← hx5]; exact HB4.out.2.1⟩
    rw [hx5]
    clear hx5 HEQ
    have HR5 : Box (x5.rangeAt S 0 (K.map (Value.int .u8))) := ⟨HR1.out.1 x5 H5.out.2⟩
    have hb25 := below_to HB4.out.1 H5.out.1
    have HCG5 : Box _ := ⟨HCG.out x5 _ v X (below_to H2.out.2.2.1.bel hb25) (H2.out.1.to hb25) H2.out.2.1⟩
    have H25 : Box (Below x2.heap.size x2 x5) := ⟨hb25⟩
    clear hb25
    by_cases hgd : Good K (lds d f n s)
    · have HC7 : Box (Calls Tryd.prog 38 #[.agg AK, v] x5 fun e w' => ∃ u C, e = .returned (.tuple #[u, .int .i64 0]) ∧ Chs w' x5.heap.size u C ∧ C.map (fun c => c.M.map pl) = ldC d K f n s ∧ Below x5.heap.size x5 w') := ⟨HCG5.out.mono fun e w' ⟨h1, h2⟩ => by
        rcases h1 with ⟨h3, _⟩ | ⟨_, u, C, q1, q2, q3⟩
        · exact absurd hgd h3
        · exact ⟨u, C, q1, q2, q3, h2⟩⟩
      have HGD : Box (Good K (lds d f n s)) := ⟨hgd⟩
      clear HCG5 hgd HCG
      go_wp2_with (first
        | (refine atLoad 39 ?_; refine wpList_ldMid rfl 39 _ _ rfl Tryd.underlying39 rfl S 0 rfl (K.map (Value.int .u8)) HR1.out.2.1 HR5.out ?_; rw [HR1.out.2.2.1])
        | (go_at_call 38; refine HC7.out.mono ?_; rintro e x6 ⟨u, C, rfl, q1, q2, q3⟩; have H6 : Box (Chs x6 x5.heap.size u C ∧ C.map (fun c => c.M.map pl) = ldC d K f n s ∧ Below x5.heap.size x5 x6) := ⟨q1, q2, q3⟩; clear q1 q2 q3))
      go_ret2
      obtain ⟨q1, q2, q3⟩ := HFO.out x1 x2 x6 fp2 H1.out H2.out.2.2.2 H2.out.2.2.1 (below_to H25.out H6.out.2.2)
      have hz : w.heap.size ≤ x5.heap.size := Nat.le_trans q3 H25.out.size
      exact ⟨fp2, q1, q2, .inr ⟨⟨HTE.out, HGD.out⟩, u, C, x5.heap.size, rfl, H6.out.1, hz, fun k hk => by have := H2.out.2.2.1.hi k hk; have := H25.out.size; omega, H6.out.2.1⟩⟩
    · have HC7 : Box (Calls Tryd.prog 38 #[.agg AK, v] x5 fun e w' => e = .returned (.tuple #[.slice none 0 0, .int .i64 14]) ∧ Below x5.heap.size x5 w') := ⟨HCG5.out.mono fun e w' ⟨h1, h2⟩ => by
        rcases h1 with ⟨_, h3⟩ | ⟨h3, _⟩
        · exact ⟨h3, h2⟩
        · exact absurd h3 hgd⟩
      have HGD : Box (¬ Good K (lds d f n s)) := ⟨hgd⟩
      clear HCG5 hgd HCG
      go_wp2_with (first
        | (refine atLoad 39 ?_; refine wpList_ldMid rfl 39 _ _ rfl Tryd.underlying39 rfl S 0 rfl (K.map (Value.int .u8)) HR1.out.2.1 HR5.out ?_; rw [HR1.out.2.2.1])
        | (go_at_call 38; refine HC7.out.mono ?_; rintro e x6 ⟨rfl, q3⟩; have H6 : Box (Below x5.heap.size x5 x6) := ⟨q3⟩; clear q3))
      go_ret2
      obtain ⟨q1, q2, q3⟩ := HFO.out x1 x2 x6 fp2 H1.out H2.out.2.2.2 H2.out.2.2.1 (below_to H25.out H6.out)
      exact ⟨fp2, q1, q2, .inl ⟨fun h => HGD.out h.2, rfl⟩⟩
  · have hdt : decide (Tg = s.tag) = false := by simpa using htg
    rw [hdt] at HEQ
    have HTE : Box (¬ LGood d K f n s) := ⟨fun h => htg (HTG.out.1.symm.trans h.1)⟩
    clear htg hdt
    go_quiet (first | (go_at_call 37; exact Calls.quiet_of_same (HEQ.out _)))
    go_wp2
    go_ret2
    obtain ⟨q1, q2, q3⟩ := HFO.out x1 x2 (x4.drewN nq) fp2 H1.out H2.out.2.2.2 H2.out.2.2.1 (below_drewN HB4.out.1 nq)
    exact ⟨fp2, q1, q2, .inl ⟨HTE.out, rfl⟩⟩
end Go.Proofs.YteaejodihmnbcaaDoor
namespace Go.Proofs.YteaejodihmnbcaaDoor
set_option maxRecDepth 100000
set_option linter.unusedVariables false
open Go.RowKit Plain
attribute [local go_sem] Oper.semAt_some
/-- What a record is written as. -/
def slt (K : List Int) (p : Int) (v : Int) (r : (Int × List Int) × Bool) : List Int := Seal.sl K p v (putP r)
theorem length_slt (K : List Int) (p v : Int) (r : (Int × List Int) × Bool) : (slt K p v r).length = 192 := Seal.length_sl _ _ _ _
theorem byt_slt (K : List Int) (p v : Int) (r : (Int × List Int) × Bool) : Byt (slt K p v r) := Seal.byt_sl _ _ _ _
theorem JC.next {w0 w : World} {J D : Nat} {fp : Nat → Prop} {j : Jt} {d : Disk.Dk} (h : JC w0 w J D fp j d) (x : Int) (hx : 1 ≤ x ∧ x ≤ 18446744073709551615) : JC w0 (w.setCell ⟨J, 69, none⟩ (.int .u64 x)) J D fp { j with nx := x } d := by
  have hb : But J w (w.setCell ⟨J, 69, none⟩ (.int .u64 x)) := (But.refl _ _).setCell 69 _
  refine h.turn hb ?_ ⟨h.ok.key, h.ok.kb, h.ok.lo, h.ok.hi, h.ok.st, h.ok.sl, h.ok.cl, hx, h.ok.lim⟩ rfl rfl
  have := heap_setCell_same w J 69 _ _ (.int .u64 x) h.row
  rw [this, List.setIfInBounds_toArray, jcs, jq_x _ _ _ _ _ _ _ _ h.ok.key h.ok.st]
  rfl
theorem own_bl {w : World} {base n c : Nat} {a : Option Addr} {L : List Int} (h : w.ownsRow base 5 1 (.slice a n c) n (L.map (Value.int .u8))) (hL : Byt L) : Bytes w a n L := own_bytes h hL
/-- What sealed leaves. -/
def SlV (w0 w : World) (J D : Nat) (fp : Nat → Prop) (j : Jt) (d : Disk.Dk) (S : List Int) (e : Ending) (w' : World) : Prop :=
  ∃ g, e = .returned (.slice (some ⟨g, 0, none⟩) 192 192) ∧ Bytes w' (some ⟨g, 0, none⟩) 192 S ∧ w.heap.size ≤ g ∧ JC w0 w' J D fp { j with nx := j.nx + 1 } d ∧ Fw (fun k => k = J) w w' fp fp
set_option maxHeartbeats 4000000 in
theorem sealed_v {w0 w : World} {J D : Nat} {fp : Nat → Prop} {j : Jt} {d : Disk.Dk} (C : JC w0 w J D fp j d) (p : Nat) (hp : p ≤ 4294967295) (r : Rc) (hB : Bytes w r.m.ba r.m.bl r.m.bs) (hn : N64 r.m.blk) (hl : r.m.bl = 160) (hnx : j.nx < 18446744073709551615) :
    Calls Tryd.prog 32 #[.pointer (some ⟨J, 0, none⟩), .int .u32 (p : Int), .agg (rcc r).toArray] w fun e w' => SlV w0 w J D fp j d (slt j.key (p : Int) j.nx (rpl r)) e w' := by
  obtain ⟨S, hS⟩ : ∃ S, w.heap.size = S := ⟨_, rfl⟩
  obtain ⟨RC, hRC⟩ : ∃ A, (rcc r).toArray = A := ⟨_, rfl⟩
  rw [hRC]
  obtain ⟨w1, hw1⟩ : ∃ w1, w.alloc (.cells RC 81) = w1 := ⟨_, rfl⟩
  have hb1 : Below w.heap.size w w1 := by rw [← hw1]; exact (Below.refl _ _).alloc (Nat.le_refl _) _
  have h1 : w1.heap[S]? = some (.cells RC 81 (0, 0)) := by rw [← hw1]; exact al_at hS
  have HR1 : Box (w1.rangeAt S 0 (rcc r)) := ⟨fun i x hx => by rw [cell_of_row _ _ _ _ _ _ h1, Nat.zero_add, ← hRC]; simpa using hx⟩
  have hbs : r.m.bs.length = 160 := by rw [hB.1]; exact hl
  have hpb : Byt (putP (rpl r)) := byt_putP (rpl r) hB.2.1
  have HPU : Box (Calls Tryd.prog 47 #[.agg RC] w1 fun e w' => ∃ a c, e = .returned (.tuple #[.slice a 176 c, .int .i64 0]) ∧ Bytes w' a 176 (putP (rpl r)) ∧ Below w1.heap.size w1 w') := ⟨by
    have := rcput_ok r w1 (hB.below hb1) hn hl
    rw [hRC] at this
    exact this.mono fun e w' ⟨a, c, h1, h2, h3⟩ => ⟨a, c, h1, own_bl h2 hpb, h3⟩⟩
  have hnx1 := C.ok.nx
  have HSE : Box (∀ (x : World) (a : Option Addr) (c : Nat), Below w1.heap.size w1 x → Bytes x a 176 (putP (rpl r)) → Calls Tryd.prog 48 #[.agg (u8s j.key), .int .u32 (p : Int), .int .u64 j.nx, .slice a 176 c] x fun e w' => ∃ g, e = .returned (.tuple #[.slice (some ⟨g, 0, none⟩) 192 192, .int .i64 0]) ∧ Bytes w' (some ⟨g, 0, none⟩) 192 (slt j.key (p : Int) j.nx (rpl r)) ∧ x.heap.size ≤ g ∧ Below x.heap.size x w') := ⟨fun x a c hx ha => by
    refine (Seal.seal_ok j.key (putP (rpl r)) (p : Int) j.nx a 176 c x (C.tab.below (below_to C.cx.bel (below_to hb1 hx))) C.ok.key C.ok.kb ⟨by omega, by omega⟩ (by omega) (by omega) (by omega) ha (.inr rfl)).mono ?_
    rintro e w' ⟨g, rfl, ho⟩
    refine ⟨g, rfl, ho.bytes (byt_slt _ _ _ _), ?_, ho.2.2⟩
    exact (own_blk ho.2.1 g rfl).1⟩
  have HJ : Box (∀ x, Below w1.heap.size w1 x → x.rangeAt J 1 (j.key.map (Value.int .u8)) ∧ x.cell? ⟨J, 69, none⟩ = some (.int .u64 j.nx)) := ⟨fun x hx => by
    have := C.jrd (below_to hb1 hx)
    exact ⟨this.key, this.nx⟩⟩
  have HFO : Box (∀ x (g : Nat), Below w1.heap.size w1 x → Bytes x (some ⟨g, 0, none⟩) 192 (slt j.key (p : Int) j.nx (rpl r)) → w1.heap.size ≤ g → x.frozen? ⟨J, 69, none⟩ = false ∧ ∀ v : Int, v = j.nx + 1 → SlV w0 w J D fp j d (slt j.key (p : Int) j.nx (rpl r)) (.returned (.slice (some ⟨g, 0, none⟩) 192 192)) (x.setCell ⟨J, 69, none⟩ (.int .u64 v))) := ⟨fun x g hx hg hgl => by
    have Cx := C.below (below_to hb1 hx)
    refine ⟨frozen_of_row _ _ _ _ _ Cx.row, fun v hv => ?_⟩
    have hbJ : But J x (x.setCell ⟨J, 69, none⟩ (.int .u64 v)) := (But.refl _ _).setCell 69 _
    have hJl := C.lt
    have hsz := hb1.size
    refine ⟨g, rfl, ?_, by omega, ?_, (Fw.below _ fp (below_to hb1 hx)).trans (Fw.of_but (fun k => k = J) rfl hbJ fp)⟩
    · obtain ⟨q1, q2, q3⟩ := hg
      refine ⟨q1, q2, fun h => ?_⟩
      obtain ⟨b, o, e, hlt, hc⟩ := q3 h
      cases e
      exact ⟨g, 0, rfl, Nat.lt_of_lt_of_le hlt hbJ.size, fun i hi => (World.cell?_of_block (hbJ.block g hlt (by omega))).trans (hc i hi)⟩
    · rw [hv]
      exact Cx.next _ (by omega)⟩
  have HN : Box (w.heap.size = S) := ⟨hS⟩
  have HIK : Box ((Tryd.prog.info? 39).map (·.size) = some (j.key.map (Value.int .u8)).length ∧ (Tryd.prog.info? 81).map (·.size) = some (rcc r).length) := ⟨by rw [List.length_map, C.ok.key]; exact infoSum, infoRc⟩
  have HRC : Box ((rcc r).toArray = RC) := ⟨hRC⟩
  have HW : Box (IntKind.u64.wrap (j.nx + 1) = j.nx + 1) := ⟨by rw [IntKind.wrap_u64]; omega⟩
  have HKU : Box ((j.key.map (Value.int .u8)).toArray = u8s j.key) := ⟨rfl⟩
  obtain ⟨AK, hAK⟩ : ∃ A, u8s j.key = A := ⟨_, rfl⟩
  rw [hAK] at HSE HKU
  generalize slt j.key (p : Int) j.nx (rpl r) = SS at *
  generalize putP (rpl r) = PP at *
  clear C hB hn hl hbs hpb hb1 h1 hS hRC hAK
  go_enter Tryd.func32, Tryd.ntmps32
  go_upto_region 1 with fail
  (try simp only [HN.out])
  clear hw1
  go_upto_region 2 with (first
    | (refine atLoad 81 ?_; refine wpList_ldMid rfl 81 _ _ rfl Tryd.underlying81 rfl S 0 rfl (rcc r) HIK.out.2 HR1.out ?_; rw [HRC.out])
    | (go_at_call 47; refine HPU.out.mono ?_; rintro e x1 ⟨a1, c1, rfl, h1, h2⟩; have H1 : Box (Below w1.heap.size w1 x1 ∧ Bytes x1 a1 176 PP) := ⟨h2, h1⟩; clear h1 h2))
  refine begin_keep (S := fun x => x.rangeAt J 1 (j.key.map (Value.int .u8)) ∧ x.cell? ⟨J, 69, none⟩ = some (.int .u64 j.nx)) (by kernel_rfl) (fun wd hwd => ?_)
  have hbd : Below x1.heap.size x1 wd := by rw [hwd]; exact (Below.refl _ _).drew
  clear hwd
  have hb1d := below_to H1.out.1 hbd
  have hS := HJ.out wd hb1d
  refine take_s (i := 0) (v := ?_) rfl (by kernel_rfl) (by kernel_rfl) (by kernel_rfl) (fun _ _ _ h => h) (by rfl) ?_ hS ?_
  rotate_left
  · intro w' hLat; clear hLat; go_simp <;> with_reducible rfl
  try simp only [Act.put, List.setIfInBounds_toArray, List.set_cons_zero, List.set_cons_succ, List.getElem_toArray, List.getElem_cons_zero]
  refine take_s (i := 1) (v := ?_) rfl (by kernel_rfl) (by kernel_rfl) (by kernel_rfl) (fun _ _ _ h => h) (by rfl) ?_ hS ?_
  rotate_left
  · intro w' hLat; clear hLat; go_simp <;> with_reducible rfl
  try simp only [Act.put, List.setIfInBounds_toArray, List.set_cons_zero, List.set_cons_succ, List.getElem_toArray, List.getElem_cons_zero, List.getElem_cons_succ]
  refine take_s (i := 2) (v := ?_) rfl (by kernel_rfl) (by kernel_rfl) (by kernel_rfl) (fun _ _ _ h => h) (by rfl) ?_ hS ?_
  rotate_left
  · intro w' hLat; clear hLat; go_simp <;> with_reducible rfl
  try simp only [Act.put, List.setIfInBounds_toArray, List.set_cons_zero, List.set_cons_succ, List.getElem_toArray, List.getElem_cons_zero, List.getElem_cons_succ]
  refine take_s (i := 3) (v := .agg AK) rfl (by kernel_rfl) (by kernel_rfl) (by kernel_rfl) (fun _ _ _ h => h) (by rfl) (fun w' hLat => by rw [← HKU.out]; exact exec_load_mid 39 _ _ rfl Tryd.underlying39 rfl J 1 rfl (j.key.map (Value.int .u8)) HIK.out.1 hLat.1) hS ?_
  try simp only [Act.put, List.setIfInBounds_toArray, List.set_cons_zero, List.set_cons_succ, List.getElem_toArray, List.getElem_cons_zero, List.getElem_cons_succ]
  refine take_s (i := 4) (v := ?_) rfl (by kernel_rfl) (by kernel_rfl) (by kernel_rfl) (fun _ _ _ h => h) (by rfl) ?_ hS ?_
  rotate_left
  · intro w' hLat; clear hLat; go_simp <;> with_reducible rfl
  try simp only [Act.put, List.setIfInBounds_toArray, List.set_cons_zero, List.set_cons_succ, List.getElem_toArray, List.getElem_cons_zero, List.getElem_cons_succ]
  refine take_s (i := 5) (v := ?_) rfl (by kernel_rfl) (by kernel_rfl) (by kernel_rfl) (fun _ _ _ h => h) (by rfl) ?_ hS ?_
  rotate_left
  · intro w' hLat; clear hLat; go_simp <;> with_reducible rfl
  try simp only [Act.put, List.setIfInBounds_toArray, List.set_cons_zero, List.set_cons_succ, List.getElem_toArray, List.getElem_cons_zero, List.getElem_cons_succ]
  refine take_s (i := 6) (v := ?_) rfl (by kernel_rfl) (by kernel_rfl) (by kernel_rfl) (fun _ _ _ h => h) (by rfl) ?_ hS ?_
  rotate_left
  · intro w' hLat; clear hLat; go_simp <;> with_reducible rfl
  try simp only [Act.put, List.setIfInBounds_toArray, List.set_cons_zero, List.set_cons_succ, List.getElem_toArray, List.getElem_cons_zero, List.getElem_cons_succ]
  refine take_s (i := 7) (v := ?_) rfl (by kernel_rfl) (by kernel_rfl) (by kernel_rfl) (fun _ _ _ h => h) (by rfl) ?_ hS ?_
  rotate_left
  · intro w' hLat; clear hLat; go_simp <;> with_reducible rfl
  try simp only [Act.put, List.setIfInBounds_toArray, List.set_cons_zero, List.set_cons_succ, List.getElem_toArray, List.getElem_cons_zero, List.getElem_cons_succ]
  refine take_s (i := 8) (v := .int .u64 j.nx) rfl (by kernel_rfl) (by kernel_rfl) (by kernel_rfl) (fun _ _ _ h => h) (by rfl) (fun w' hLat => exec_load1 33 _ _ rfl Tryd.underlying33 rfl _ rfl _ hLat.2) hS ?_
  try simp only [Act.put, List.setIfInBounds_toArray, List.set_cons_zero, List.set_cons_succ, List.getElem_toArray, List.getElem_cons_zero, List.getElem_cons_succ]
  refine take_s (i := 9) (v := ?_) rfl (by kernel_rfl) (by kernel_rfl) (by kernel_rfl) (fun _ _ _ h => h) (by rfl) ?_ hS ?_
  rotate_left
  · intro w' hLat; clear hLat; go_simp <;> with_reducible rfl
  try simp only [Act.put, List.setIfInBounds_toArray, List.set_cons_zero, List.set_cons_succ, List.getElem_toArray, List.getElem_cons_zero, List.getElem_cons_succ]
  refine one_keep (i := 10) (by kernel_rfl) ?_
  refine keep_step rfl (by rfl) ?_
  go_simp
  refine Calls.mono (HSE.out wd a1 c1 hb1d (H1.out.2.below hbd)) ?_
  rintro e x2 ⟨g, rfl, hg1, hg2, hb2⟩
  have H2 : Box (Below w1.heap.size w1 x2 ∧ Bytes x2 (some ⟨g, 0, none⟩) 192 SS ∧ w1.heap.size ≤ g) := ⟨below_to hb1d hb2, hg1, Nat.le_trans hb1d.size hg2⟩
  clear hg1 hg2 hb2
  have hS := HJ.out x2 H2.out.1
  refine ⟨hS, ?_⟩
  try simp only [Act.put, List.setIfInBounds_toArray, List.set_cons_zero, List.set_cons_succ, List.getElem_toArray, List.getElem_cons_zero, List.getElem_cons_succ]
  refine take_s (i := 11) (v := ?_) rfl (by kernel_rfl) (by kernel_rfl) (by kernel_rfl) (fun _ _ _ h => h) (by rfl) ?_ hS ?_
  rotate_left
  · intro w' hLat; clear hLat; go_simp <;> with_reducible rfl
  try simp only [Act.put, List.setIfInBounds_toArray, List.set_cons_zero, List.set_cons_succ, List.getElem_toArray, List.getElem_cons_zero, List.getElem_cons_succ]
  refine take_s (i := 12) (v := ?_) rfl (by kernel_rfl) (by kernel_rfl) (by kernel_rfl) (fun _ _ _ h => h) (by rfl) ?_ hS ?_
  rotate_left
  · intro w' hLat; clear hLat; go_simp <;> with_reducible rfl
  try simp only [Act.put, List.setIfInBounds_toArray, List.set_cons_zero, List.set_cons_succ, List.getElem_toArray, List.getElem_cons_zero, List.getElem_cons_succ]
  refine take_s (i := 13) (v := ?_) rfl (by kernel_rfl) (by kernel_rfl) (by kernel_rfl) (fun _ _ _ h => h) (by rfl) ?_ hS ?_
  rotate_left
  · intro w' hLat; clear hLat; go_simp <;> with_reducible rfl
  try simp only [Act.put, List.setIfInBounds_toArray, List.set_cons_zero, List.set_cons_succ, List.getElem_toArray, List.getElem_cons_zero, List.getElem_cons_succ]
  refine take_s (i := 14) (v := ?_) rfl (by kernel_rfl) (by kernel_rfl) (by kernel_rfl) (fun _ _ _ h => h) (by rfl) ?_ hS ?_
  rotate_left
  · intro w' hLat; clear hLat; go_simp <;> with_reducible rfl
  try simp only [Act.put, List.setIfInBounds_toArray, List.set_cons_zero, List.set_cons_succ, List.getElem_toArray, List.getElem_cons_zero, List.getElem_cons_succ]
  refine take_s (i := 15) (v := ?_) rfl (by kernel_rfl) (by kernel_rfl) (by kernel_rfl) (fun _ _ _ h => h) (by rfl) ?_ hS ?_
  rotate_left
  · intro w' hLat; clear hLat; go_simp <;> with_reducible rfl
  try simp only [Act.put, List.setIfInBounds_toArray, List.set_cons_zero, List.set_cons_succ, List.getElem_toArray, List.getElem_cons_zero, List.getElem_cons_succ]
  refine wpAnyH_done (by kernel_rfl) ?_ _
  clear hbd hb1d
  obtain ⟨hfz, hfo⟩ := HFO.out x2 g H2.out.1 H2.out.2.1 H2.out.2.2
  have cnx := hS.2
  have HFF : Box _ := ⟨hfo⟩
  have hww := HW.out
  clear hfo hS HFO HSE HPU HJ
  go_wp2
  go_ret
  exact HFF.out _ rfl
end Go.Proofs.YteaejodihmnbcaaDoor
