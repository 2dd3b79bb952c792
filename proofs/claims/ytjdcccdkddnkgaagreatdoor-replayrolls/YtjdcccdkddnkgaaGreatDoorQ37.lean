/-
  What Load of package replay answers, where journal.New takes what it is handed and the disk is up. And what follows it.
-/
import Derived.Test.YtjdcccdkddnkgaaGreatDoorQ36
import Derived.Test.YtjdcccdkddnkgaaGreatDoorQ21
import Derived.Test.YtjdcccdkddnkgaaGreatDoorQ32
import Derived.Test.YtjdcccdkddnkgaaGreatDoorQ31
namespace Go.Proofs.YtjdcccdkddnkgaaGreatDoor
set_option maxRecDepth 100000
set_option linter.unusedVariables false
set_option maxRecDepth 100000
open Go.RowKit Plain
attribute [local go_sem] Oper.semAt_some
/-- The slots that count, and whether they are those that were written. -/
def lds (d : Disk.Dk) (f n : Nat) (s : Jst) : List (Nat × List Int) := (pcs f n s.start s.count).map fun p => (p, Disk.lat d p)
def LGood (d : Disk.Dk) (K : List Int) (f n : Nat) (s : Jst) : Prop := chn (lds d f n s) = s.tag ∧ Good K (lds d f n s)
/-- The changes that are told. -/
def ldC (d : Disk.Dk) (K : List Int) (f n : Nat) (s : Jst) : List (List (Int × List Int)) := (chS ((lds d f n s).map (opR K))).1
theorem slice_sum (g o : Nat) (x : World) : (Instr.sliceAt 23 (.pointer (some ⟨g, o, none⟩)) none none none).run Tryz.prog x = .ok (.slice (some ⟨g, o, none⟩) 32 32) x := by kernel_rfl
theorem bytes_mid {w : World} {g o : Nat} {cs : Array Value} {t : TypeId} {fr : Nat × Nat} (h : w.heap[g]? = some (.cells cs t fr)) (L : List Int) (hL : L.length = 32) (hb : Byt L) (hc : ∀ i, i < 32 → cs[o + i]? = some (.int .u8 (L.getD i 0))) : Bytes w (some ⟨g, o, none⟩) 32 L :=
  ⟨hL, hb, fun _ => ⟨g, o, rfl, (Array.getElem?_eq_some_iff.1 h).1, fun i hi => by rw [cell_of_row _ _ _ _ _ _ h]; exact hc i hi⟩⟩
/-- Changes stay where nothing of theirs turns. -/
theorem Chs.same {w w' : World} {B : Nat} {v : Value} {C : List Sx} (h : Chs w B v C) (hs : ∀ k, B ≤ k → k < w.heap.size → w'.heap[k]? = w.heap[k]?) (hz : w.heap.size ≤ w'.heap.size) : Chs w' B v C := by
  refine ⟨own_same h.row (fun k hk => hs k (own_blk h.row k hk).1 (h.row.lt k hk).2), fun c hc => ?_⟩
  obtain ⟨r1, ⟨g, p, r2, r3, r4, r5⟩, r6⟩ := h.im c hc
  refine ⟨r1, ⟨g, p, r2, Nat.lt_of_lt_of_le r3 hz, r4, fun i hi j v hv => (World.cell?_of_block (hs g r2 r3)).trans (r5 i hi j v hv)⟩, fun m hm => ?_⟩
  have o := r6 m hm
  exact ⟨own_same o.own (fun k hk => hs k (own_blk o.own k hk).1 (o.own.lt k hk).2), o.byt, o.num⟩
theorem Chs.igss {w : World} {B c : Nat} {a : Option Addr} {C : List Sx} (h : Chs w B (.slice a C.length c) C) (hl : ∀ x ∈ C, x.l ≤ maxLen) : Igss w a C := by
  refine ⟨own_tb (fun _ => rfl) h.row rfl, fun x hx => ?_⟩
  obtain ⟨r1, ⟨g, p, r2, r3, r4, r5⟩, r6⟩ := h.im x hx
  exact ⟨r1, ⟨fun _ => ⟨g, p, r4, r3, r5⟩, fun m hm => (r6 m hm).byi⟩, hl x hx⟩
set_option maxHeartbeats 8000000 in
theorem load_v {w0 w : World} {D : Nat} {fp : Nat → Prop} {d : Disk.Dk} (C : Disk.Cx w0 w D fp d) (K : List Int) (hK : K.length = 32 ∧ Byt K) (f n : Nat) (s : Jst) (hs : OkS s) (h1 : 1 ≤ n) (hn1 : n ≤ 1000) (hfit : f + n ≤ d.n) (hdn : d.n ≤ 4096) (hm : may n s = true) (hd : d.down = false) (ho : d.ops.length < 900000) (hu : d.uw.length < 900000) (hT : Dig.Tabs w0) (hT2 : Seal.Tab w0) :
    Calls Tryz.prog 25 #[.pointer (some ⟨D, 0, none⟩), .agg (u8s K), .int .i64 (f : Int), .int .i64 (n : Int), .agg (sa s)] w fun e w' => ∃ fp', Disk.Cx w0 w' D fp' (rdD d (pcs f n s.start s.count)) ∧ Disk.Fol w fp w' fp' ∧ ((¬ LGood d K f n s ∧ e = .returned (.tuple #[.slice none 0 0, .int .i64 14])) ∨ (LGood d K f n s ∧ ∃ u X B, e = .returned (.tuple #[u, .int .i64 0]) ∧ Chs w' B u X ∧ w.heap.size ≤ B ∧ (∀ k, fp' k → k < B) ∧ X.map (fun c => c.M.map pl) = ldC d K f n s)) := by
  have hmm := may_ok hm
  obtain ⟨S, hS⟩ : ∃ S, w.heap.size = S := ⟨_, rfl⟩
  obtain ⟨AK, hAK⟩ : ∃ A, u8s K = A := ⟨_, rfl⟩
  obtain ⟨SA, hSA⟩ : ∃ A, sa s = A := ⟨_, rfl⟩
  obtain ⟨w1, hw1⟩ : ∃ w1, (w.alloc (.cells AK 23)).alloc (.cells SA 27) = w1 := ⟨_, rfl⟩
  have hb1 : Below w.heap.size w w1 := by rw [← hw1]; exact ((Below.refl _ _).alloc (Nat.le_refl _) _).alloc (by simp) _
  have k1 : w1.heap[S]? = some (.cells AK 23 (0, 0)) := by rw [← hw1]; exact al_old (al_at hS)
  have k2 : w1.heap[S + 1]? = some (.cells SA 27 (0, 0)) := by rw [← hw1]; exact al_at (by simp [hS])
  have hs1 : w1.heap.size = S + 2 := by rw [← hw1]; simp [hS]
  have C1 := C.step hb1
  have nS : ∀ i, S ≤ i → ¬ fp i := fun i hi h => by have := C.hi i h; omega
  have HJN : Box (Calls Tryz.prog 9 #[.pointer (some ⟨D, 0, none⟩), .agg AK, .int .i64 (f : Int), .int .i64 (n : Int), .agg SA, .int .u64 1, .int .u64 1] w1 fun e w' => ∃ J, e = .returned (.tuple #[.pointer (some ⟨J, 0, none⟩), .int .i64 0]) ∧ Below w1.heap.size w1 w') := ⟨by
    have := jnew_ok C1 K hK f n h1 hfit hdn s hs hm 1 1 ⟨by omega, by omega⟩ ⟨by omega, by omega⟩ hT hT2
    rw [hAK, hSA] at this
    refine this.mono ?_
    rintro e w' ⟨J, q1, _, q3, _⟩
    exact ⟨J, q1, q3⟩⟩
  have HRD : Box (∀ y, Below w1.heap.size w1 y → Calls Tryz.prog 57 #[.pointer (some ⟨D, 0, none⟩), .int .u64 (f : Int), .int .u64 (n : Int), .agg SA] y fun e w' => ∃ v X fp', e = .returned (.tuple #[v, .int .i64 0]) ∧ Slots w' y.heap.size v X ∧ X.map spl = lds d f n s ∧ Disk.Cx w0 w' D fp' (rdD d (pcs f n s.start s.count)) ∧ Disk.Fol y fp w' fp') := ⟨fun y hy => by
    have := read_v (C1.step hy) f n s h1 hfit hdn hm hd ho hu
    rw [hSA] at this
    exact this⟩
  have HKP : Box (∀ y z fp', Below w1.heap.size w1 y → Disk.Fol y fp z fp' → z.heap[S]? = some (.cells AK 23 (0, 0)) ∧ z.heap[S + 1]? = some (.cells SA 27 (0, 0))) := ⟨fun y z fp' hy hz => by
    have hz1 := hy.size
    exact ⟨(hz.t.block S (by omega) (nS S (Nat.le_refl _))).trans ((hy.block S (by omega)).trans k1), (hz.t.block (S + 1) (by omega) (nS _ (by omega))).trans ((hy.block (S + 1) (by omega)).trans k2)⟩⟩
  have HR1 : Box ((∀ y : World, y.heap[S]? = some (.cells AK 23 (0, 0)) → y.rangeAt S 0 (K.map (Value.int .u8))) ∧ (Tryz.prog.info? 23).map (·.size) = some (K.map (Value.int .u8)).length ∧ (K.map (Value.int .u8)).toArray = AK ∧ (∀ y : World, y.heap[S + 1]? = some (.cells SA 27 (0, 0)) → y.rangeAt (S + 1) 0 (scs s) ∧ Bytes y (some ⟨S + 1, 2, none⟩) 32 s.tag) ∧ (Tryz.prog.info? 27).map (·.size) = some (scs s).length ∧ (scs s).toArray = SA) := ⟨fun y hy => by rw [← hAK] at hy; exact range_u8 hy, by rw [List.length_map, hK.1]; exact infoSum, by rw [← hAK]; rfl, fun y hy => by
    rw [← hSA] at hy
    refine ⟨range_sa hy, bytes_mid hy s.tag hs.lt hs.bt (fun i hi => ?_)⟩
    have hi2 : i < s.tag.length := by rw [hs.lt]; exact hi
    rw [show 2 + i = i + 1 + 1 by omega]
    simp [sa, scs, List.getD, hi2], by rw [len_scs hs]; exact infoSt, by rw [← hSA]; rfl⟩
  have HCH : Box (∀ y B v X, Below w0.heap.size w0 y → Slots y B v X → X.map spl = lds d f n s → Calls Tryz.prog 58 #[v] y fun e w' => e = .returned (.agg (u8s (chn (lds d f n s)))) ∧ Below y.heap.size y w') := ⟨fun y B v X hy hX he => by
    have := chain_v hX (hT.below hy) (by have := congrArg List.length he; simp [lds, pcs] at this; omega)
    rw [he] at this
    exact this⟩
  have HCG : Box (∀ y B v X, Below w0.heap.size w0 y → Slots y B v X → X.map spl = lds d f n s → Calls Tryz.prog 60 #[.agg AK, v] y fun e w' => ((¬ Good K (lds d f n s) ∧ e = .returned (.tuple #[.slice none 0 0, .int .i64 14])) ∨ (Good K (lds d f n s) ∧ ∃ u C, e = .returned (.tuple #[u, .int .i64 0]) ∧ Chs w' y.heap.size u C ∧ C.map (fun c => c.M.map pl) = ldC d K f n s)) ∧ Below y.heap.size y w') := ⟨fun y B v X hy hX he => by
    have := changes_v hX (hT2.below hy) K hK (by have := congrArg List.length he; simp [lds, pcs] at this; omega)
    rw [he, hAK] at this
    exact this⟩
  have HFO : Box (∀ y z z2 fp', Below w1.heap.size w1 y → Disk.Fol y fp z fp' → Disk.Cx w0 z D fp' (rdD d (pcs f n s.start s.count)) → Below z.heap.size z z2 → Disk.Cx w0 z2 D fp' (rdD d (pcs f n s.start s.count)) ∧ Disk.Fol w fp z2 fp' ∧ w.heap.size ≤ z.heap.size) := ⟨fun y z z2 fp' hy hz hc hz2 => by
    have hb := below_to hb1 hy
    refine ⟨hc.step hz2, fol_trans ⟨Disk.Turned.of_below hb, fun _ _ h => h⟩ (fol_trans hz ⟨Disk.Turned.of_below hz2, fun _ _ h => h⟩), ?_⟩
    have := hb.size
    have := hz.t.size
    omega⟩
  have HSS : Box (w.heap.size = S) := ⟨hS⟩
  have hs2 : (w.alloc (.cells AK 23)).heap.size = S + 1 := by simp [hS]
  have hwf : IntKind.u64.wrap (f : Int) = (f : Int) := by rw [IntKind.wrap_u64]; omega
  have hwn : IntKind.u64.wrap (n : Int) = (n : Int) := by rw [IntKind.wrap_u64]; omega
  have hw1r : Box (w1.heap[S]? = some (.cells AK 23 (0, 0)) ∧ w1.heap[S + 1]? = some (.cells SA 27 (0, 0)) ∧ w1.heap.size = S + 2) := ⟨k1, k2, hs1⟩
  obtain ⟨LL, hLL⟩ : ∃ L, lds d f n s = L := ⟨_, rfl⟩
  obtain ⟨Tg, hTg⟩ : ∃ T, chn LL = T := ⟨_, rfl⟩
  have HTG : Box (chn (lds d f n s) = Tg ∧ Tg.length = 32 ∧ Byt Tg ∧ s.tag.length = 32) := ⟨by rw [hLL]; exact hTg, by rw [← hTg]; exact (chn_len _).1, by rw [← hTg]; exact (chn_len _).2, hs.lt⟩
  rw [hAK, hSA]
  rw [HTG.out.1] at HCH
  have HTS : Box ((Tryz.prog.info? 23).map (·.size) = some (u8s Tg).size ∧ (u8s z32).size = (u8s Tg).size) := ⟨by rw [size_u8s, HTG.out.2.1]; exact infoSum, by rw [size_u8s, size_u8s, HTG.out.2.1, len_z32]⟩
  clear C hK hs h1 hn1 hfit hdn hm hd ho hu hT hT2 hmm hb1 k1 k2 hs1 C1 nS hS hAK hSA hLL hTg
  go_enter Tryz.func25, Tryz.ntmps25
  go_upto_region 1 with fail
  (try rw [hs2])
  (try simp only [HSS.out])
  clear hw1 hs2
  have HRa : Box (w1.rangeAt S 0 (K.map (Value.int .u8)) ∧ w1.rangeAt (S + 1) 0 (scs s)) := ⟨HR1.out.1 w1 hw1r.out.1, (HR1.out.2.2.2.1 w1 hw1r.out.2.1).1⟩
  go_upto_region 4 with (first
    | (refine atLoad 23 ?_; refine wpList_ldMid rfl 23 _ _ rfl Tryz.underlying23 rfl S 0 rfl (K.map (Value.int .u8)) HR1.out.2.1 HRa.out.1 ?_; rw [HR1.out.2.2.1])
    | (refine atLoad 27 ?_; refine wpList_ldMid rfl 27 _ _ rfl Tryz.underlying27 rfl (S + 1) 0 rfl (scs s) HR1.out.2.2.2.2.1 HRa.out.2 ?_; rw [HR1.out.2.2.2.2.2])
    | (go_at_call 9; refine HJN.out.mono ?_; rintro e x1 ⟨J, rfl, hb⟩; have H1 : Box (Below w1.heap.size w1 x1) := ⟨hb⟩; clear hb))
  have HRb : Box (x1.rangeAt (S + 1) 0 (scs s)) := ⟨(HR1.out.2.2.2.1 x1 ((H1.out.block (S + 1) (by have := hw1r.out.2.2; omega)).trans hw1r.out.2.1)).1⟩
  have HRDx : Box _ := ⟨HRD.out x1 H1.out⟩
  clear HRa HRD HJN
  go_upto_region 7 with (first
    | (refine atLoad 27 ?_; refine wpList_ldMid rfl 27 _ _ rfl Tryz.underlying27 rfl (S + 1) 0 rfl (scs s) HR1.out.2.2.2.2.1 HRb.out ?_; rw [HR1.out.2.2.2.2.2])
    | (go_at_call 57; refine HRDx.out.mono ?_; rintro e x2 ⟨v, X, fp2, rfl, q1, q2, q3, q4⟩; have H2 : Box (Slots x2 x1.heap.size v X ∧ X.map spl = lds d f n s ∧ Disk.Cx w0 x2 D fp2 (rdD d (pcs f n s.start s.count)) ∧ Disk.Fol x1 fp x2 fp2) := ⟨q1, q2, q3, q4⟩; clear q1 q2 q3 q4))
  have HCx : Box _ := ⟨HCH.out x2 _ v X H2.out.2.2.1.bel H2.out.1 H2.out.2.1⟩
  have HK2 : Box _ := ⟨HKP.out x1 x2 fp2 H1.out H2.out.2.2.2⟩
  clear HCH HKP HRb HRDx
  go_upto_region 8 with (first
    | (go_at_call 58; refine HCx.out.mono ?_; rintro e x3 ⟨rfl, hb⟩; have H3 : Box (Below x2.heap.size x2 x3) := ⟨hb⟩; clear hb)
    | (refine atAlloc _ ?_; refine wpList_run rfl _ _ (exec_alloc 23 rfl _ zeroSum) ?_)
    | (refine atStore _ ?_; refine wpList_newRow x3 (u8s z32) (u8s Tg) HTS.out.1 HTS.out.2 (all_u8s Tg) rfl _ _ rfl rfl rfl rfl ?_; intro x4 h4 hb4; have H4 : Box (x4.heap[x3.heap.size]? = some (.cells (u8s Tg) 23 (0, 0)) ∧ Below x3.heap.size x3 x4) := ⟨h4, hb4⟩; clear h4 hb4))
  obtain ⟨T, hTt⟩ : ∃ T, x3.heap.size = T := ⟨_, rfl⟩
  (try simp only [hTt])
  have HB4 : Box (Below x2.heap.size x2 x4 ∧ x4.heap[S]? = some (.cells AK 23 (0, 0)) ∧ x4.heap[S + 1]? = some (.cells SA 27 (0, 0)) ∧ x4.heap[T]? = some (.cells (u8s Tg) 23 (0, 0))) := ⟨by
    have hb := below_to H3.out H4.out.2
    have l1 := (Array.getElem?_eq_some_iff.1 HK2.out.1).1
    have l2 := (Array.getElem?_eq_some_iff.1 HK2.out.2).1
    rw [← hTt]
    exact ⟨hb, (hb.block S l1).trans HK2.out.1, (hb.block (S + 1) l2).trans HK2.out.2, H4.out.1⟩⟩
  have HEQ : Box (∀ m, Calls Tryz.prog 59 #[.slice (some ⟨T, 0, none⟩) 32 32, .slice (some ⟨S + 1, 2, none⟩) 32 32] (x4.drewN m) fun e w' => e = .returned (.bool (decide (Tg = s.tag))) ∧ w' = x4.drewN m) := ⟨fun m => by
    have b1 : Bytes (x4.drewN m) (some ⟨T, 0, none⟩) 32 Tg := bytes_mid (w := x4.drewN m) HB4.out.2.2.2 Tg HTG.out.2.1 HTG.out.2.2.1 (fun i hi => by
      have hi2 : i < Tg.length := by rw [HTG.out.2.1]; exact hi
      simp [u8s, List.getD, hi2])
    have b2 : Bytes (x4.drewN m) (some ⟨S + 1, 2, none⟩) 32 s.tag := (HR1.out.2.2.2.1 (x4.drewN m) HB4.out.2.2.1).2
    exact (bytes_any _ _ 32 32 32 32 Tg s.tag _ b1 b2 (by omega) (by omega)).mono fun _ _ ⟨h1, h2⟩ => ⟨h1, h2.symm⟩⟩
  have hsl := slice_sum T 0
  have hsl2 := slice_sum (S + 1) 2
  clear hTt HCx
  by_cases htg : Tg = s.tag
  · have hdt : decide (Tg = s.tag) = true := by simpa using htg
    rw [hdt] at HEQ
    have HTE : Box (chn (lds d f n s) = s.tag) := ⟨HTG.out.1.trans htg⟩
    clear htg hdt
    go_quiet (first | (go_at_call 59; exact Calls.quiet_of_same (HEQ.out _)))
    obtain ⟨x5, hx5⟩ : ∃ x5, x4.drewN nq = x5 := ⟨_, rfl⟩
    have H5 : Box (Below x4.heap.size x4 x5 ∧ x5.heap[S]? = some (.cells AK 23 (0, 0))) := ⟨by rw [← hx5]; exact below_drewN (Below.refl _ _) nq, by rw [← hx5]; exact HB4.out.2.1⟩
    rw [hx5]
    clear hx5 HEQ
    have HR5 : Box (x5.rangeAt S 0 (K.map (Value.int .u8))) := ⟨HR1.out.1 x5 H5.out.2⟩
    have hb25 := below_to HB4.out.1 H5.out.1
    have HCG5 : Box _ := ⟨HCG.out x5 _ v X (below_to H2.out.2.2.1.bel hb25) (H2.out.1.to hb25) H2.out.2.1⟩
    have H25 : Box (Below x2.heap.size x2 x5) := ⟨hb25⟩
    clear hb25
    by_cases hgd : Good K (lds d f n s)
    · have HC7 : Box (Calls Tryz.prog 60 #[.agg AK, v] x5 fun e w' => ∃ u C, e = .returned (.tuple #[u, .int .i64 0]) ∧ Chs w' x5.heap.size u C ∧ C.map (fun c => c.M.map pl) = ldC d K f n s ∧ Below x5.heap.size x5 w') := ⟨HCG5.out.mono fun e w' ⟨h1, h2⟩ => by
        rcases h1 with ⟨h3, _⟩ | ⟨_, u, C, q1, q2, q3⟩
        · exact absurd hgd h3
        · exact ⟨u, C, q1, q2, q3, h2⟩⟩
      have HGD : Box (Good K (lds d f n s)) := ⟨hgd⟩
      clear HCG5 hgd HCG
      go_wp2_with (first
        | (refine atLoad 23 ?_; refine wpList_ldMid rfl 23 _ _ rfl Tryz.underlying23 rfl S 0 rfl (K.map (Value.int .u8)) HR1.out.2.1 HR5.out ?_; rw [HR1.out.2.2.1])
        | (go_at_call 60; refine HC7.out.mono ?_; rintro e x6 ⟨u, C, rfl, q1, q2, q3⟩; have H6 : Box (Chs x6 x5.heap.size u C ∧ C.map (fun c => c.M.map pl) = ldC d K f n s ∧ Below x5.heap.size x5 x6) := ⟨q1, q2, q3⟩; clear q1 q2 q3))
      go_ret2
      obtain ⟨q1, q2, q3⟩ := HFO.out x1 x2 x6 fp2 H1.out H2.out.2.2.2 H2.out.2.2.1 (below_to H25.out H6.out.2.2)
      have hz : w.heap.size ≤ x5.heap.size := Nat.le_trans q3 H25.out.size
      exact ⟨fp2, q1, q2, .inr ⟨⟨HTE.out, HGD.out⟩, u, C, x5.heap.size, rfl, H6.out.1, hz, fun k hk => by have := H2.out.2.2.1.hi k hk; have := H25.out.size; omega, H6.out.2.1⟩⟩
    · have HC7 : Box (Calls Tryz.prog 60 #[.agg AK, v] x5 fun e w' => e = .returned (.tuple #[.slice none 0 0, .int .i64 14]) ∧ Below x5.heap.size x5 w') := ⟨HCG5.out.mono fun e w' ⟨h1, h2⟩ => by
        rcases h1 with ⟨_, h3⟩ | ⟨h3, _⟩
        · exact ⟨h3, h2⟩
        · exact absurd h3 hgd⟩
      have HGD : Box (¬ Good K (lds d f n s)) := ⟨hgd⟩
      clear HCG5 hgd HCG
      go_wp2_with (first
        | (refine atLoad 23 ?_; refine wpList_ldMid rfl 23 _ _ rfl Tryz.underlying23 rfl S 0 rfl (K.map (Value.int .u8)) HR1.out.2.1 HR5.out ?_; rw [HR1.out.2.2.1])
        | (go_at_call 60; refine HC7.out.mono ?_; rintro e x6 ⟨rfl, q3⟩; have H6 : Box (Below x5.heap.size x5 x6) := ⟨q3⟩; clear q3))
      go_ret2
      obtain ⟨q1, q2, q3⟩ := HFO.out x1 x2 x6 fp2 H1.out H2.out.2.2.2 H2.out.2.2.1 (below_to H25.out H6.out)
      exact ⟨fp2, q1, q2, .inl ⟨fun h => HGD.out h.2, rfl⟩⟩
  · have hdt : decide (Tg = s.tag) = false := by simpa using htg
    rw [hdt] at HEQ
    have HTE : Box (¬ LGood d K f n s) := ⟨fun h => htg (HTG.out.1.symm.trans h.1)⟩
    clear htg hdt
    go_quiet (first | (go_at_call 59; exact Calls.quiet_of_same (HEQ.out _)))
    go_wp2
    go_ret2
    obtain ⟨q1, q2, q3⟩ := HFO.out x1 x2 (x4.drewN nq) fp2 H1.out H2.out.2.2.2 H2.out.2.2.1 (below_drewN HB4.out.1 nq)
    exact ⟨fp2, q1, q2, .inl ⟨HTE.out, rfl⟩⟩
end Go.Proofs.YtjdcccdkddnkgaaGreatDoor
namespace Go.Proofs.YtjdcccdkddnkgaaGreatDoor
set_option maxRecDepth 100000
set_option linter.unusedVariables false
open Go.RowKit Plain
theorem foldl_of (d : List (Int × List Int)) (hd : d ≠ []) (o : List (List (Int × List Int))) : (ofP d).foldl chSt (o, []) = (o ++ [d], []) := by
  obtain ⟨D, x, rfl⟩ : ∃ D x, d = D ++ [x] := ⟨d.dropLast, d.getLast hd, (List.dropLast_concat_getLast hd).symm⟩
  rw [ofP_snoc, List.foldl_append]
  have key : ∀ (E : List (Int × List Int)) (nw : List (Int × List Int)), (E.map (fun y => (y, false))).foldl chSt (o, nw) = (o, nw ++ E) := by
    intro E
    induction E with
    | nil => intro nw; simp
    | cons y E ih =>
      intro nw
      rw [List.map_cons, List.foldl_cons]
      have : chSt (o, nw) (y, false) = (o, nw ++ [y]) := by simp [chSt]
      rw [this, ih]
      simp
  rw [key]
  simp [chSt]
theorem chS_of (D : List (List (Int × List Int))) (h : ∀ d ∈ D, d ≠ []) : chS ((D.map ofP).flatten) = (D, []) := by
  have key : ∀ (E : List (List (Int × List Int))) (o : List (List (Int × List Int))), (∀ d ∈ E, d ≠ []) → ((E.map ofP).flatten).foldl chSt (o, []) = (o ++ E, []) := by
    intro E
    induction E with
    | nil => intro o _; simp
    | cons d E ih =>
      intro o hE
      rw [List.map_cons, List.flatten_cons, List.foldl_append, foldl_of d (hE d (by simp)), ih _ (fun x hx => hE x (by simp [hx]))]
      simp
  have := key D [] h
  simpa [chS] using this
theorem last_of (D : List (List (Int × List Int))) (h : ∀ d ∈ D, d ≠ []) (h0 : 0 < ((D.map ofP).flatten).length) : (((D.map ofP).flatten)[((D.map ofP).flatten).length - 1]'(by omega)).2 = true := by
  obtain ⟨E, d, rfl⟩ : ∃ E d, D = E ++ [d] := by
    have : D ≠ [] := by intro e; subst e; simp at h0
    exact ⟨D.dropLast, D.getLast this, (List.dropLast_concat_getLast this).symm⟩
  have hd := h d (by simp)
  obtain ⟨F, x, rfl⟩ : ∃ F x, d = F ++ [x] := ⟨d.dropLast, d.getLast hd, (List.dropLast_concat_getLast hd).symm⟩
  have e : ((E ++ [F ++ [x]]).map ofP).flatten = ((E.map ofP).flatten ++ F.map (fun y => (y, false))) ++ [(x, true)] := by
    simp [ofP_snoc]
  have h2 : (((E ++ [F ++ [x]]).map ofP).flatten)[(((E ++ [F ++ [x]]).map ofP).flatten).length - 1]? = some (x, true) := by
    rw [e]
    simp
  rw [List.getElem?_eq_getElem (by omega)] at h2
  rw [Option.some.inj h2]
/-- A record that may be written. -/
def RcOk (r : (Int × List Int) × Bool) : Prop := r.1.2.length = 160 ∧ Byt r.1.2 ∧ N64 r.1.1
theorem opn_slt (K : List Int) (p : Nat) (v : Int) (r : (Int × List Int) × Bool) (hr : RcOk r) (hv : 1 ≤ v ∧ v ≤ 9223372036854775807) : Opn K (p, slt K (p : Int) v r) ∧ opR K (p, slt K (p : Int) v r) = r := by
  have hl := len_putP r hr.1
  have e : Seal.op K (p : Int) (slt K (p : Int) v r) 176 = putP r := Seal.op_sl K (p : Int) v (putP r) 176 hl (byt_putP r hr.2.1) (by omega) ⟨by omega, by omega⟩
  refine ⟨⟨Seal.sl_fit K (p : Int) v (putP r) 176 hl (by omega) ⟨by omega, by omega⟩ (by omega) (by omega), ?_⟩, ?_⟩
  · show fitR (Seal.op K (p : Int) (slt K (p : Int) v r) 176)
    rw [e]
    exact fit_putP r hr.1
  · show getP (Seal.op K (p : Int) (slt K (p : Int) v r) 176) = r
    rw [e]
    exact getP_putP r hr.2.2
/-- The records that a journal has on its disk. -/
structure Jn (d : Disk.Dk) (K : List Int) (f n : Nat) (s : Jst) (R : List ((Int × List Int) × Bool)) : Prop where
  ct : s.count = R.length
  tg : chn (lds d f n s) = s.tag
  op : ∀ x ∈ lds d f n s, Opn K x
  rs : (lds d f n s).map (opR K) = R
theorem jn_nil (d : Disk.Dk) (K : List Int) (f n : Nat) (st : Nat) : Jn d K f n ⟨st, 0, z32⟩ [] := ⟨rfl, rfl, fun x hx => by simp [lds, pcs] at hx, rfl⟩
theorem mod_other (st i c n : Nat) (h1 : i < c) (h2 : c < n) : (st + i) % n ≠ (st + c) % n := by
  intro e
  have h3 := Nat.sub_mod_eq_zero_of_mod_eq e.symm
  rw [show st + c - (st + i) = c - i by omega, Nat.mod_eq_of_lt (by omega)] at h3
  omega
theorem lds_wr (d : Disk.Dk) (f n : Nat) (s : Jst) (T tg : List Int) (hc : s.count < n) : lds (Disk.wrOk d (f + (s.start + s.count) % n) T) f n ⟨s.start, s.count + 1, tg⟩ = lds d f n s ++ [(f + (s.start + s.count) % n, T)] := by
  unfold lds
  show (pcs f n s.start (s.count + 1)).map _ = _
  rw [pcs_succ, List.map_append]
  congr 1
  · apply List.map_congr_left
    intro p hp
    obtain ⟨i, hi, rfl⟩ := List.mem_map.1 hp
    have hi' : i < s.count := List.mem_range.1 hi
    rw [Disk.lat_wr, if_neg]
    have := mod_other s.start i s.count n hi' hc
    omega
  · simp [Disk.lat_wr]
theorem Jn.step {d : Disk.Dk} {j : Jt} {s : Jst} {R : List ((Int × List Int) × Bool)} (h : Jn d j.key j.first j.size s R) (hc : s.count < j.size) (nx : Int) (hx : 1 ≤ nx ∧ nx ≤ 9223372036854775807) (r : (Int × List Int) × Bool) (hr : RcOk r) :
    Jn (Disk.wrOk d (plc j (s.start + s.count)) (slt j.key (plc j (s.start + s.count) : Int) nx r)) j.key j.first j.size (nxS j s (plc j (s.start + s.count)) (slt j.key (plc j (s.start + s.count) : Int) nx r)) (R ++ [r]) := by
  obtain ⟨o1, o2⟩ := opn_slt j.key (plc j (s.start + s.count)) nx r hr hx
  have e := lds_wr d j.first j.size s (slt j.key (plc j (s.start + s.count) : Int) nx r) (lnk s.tag (plc j (s.start + s.count) : Int) (slt j.key (plc j (s.start + s.count) : Int) nx r)) hc
  have e' : lds (Disk.wrOk d (plc j (s.start + s.count)) (slt j.key (plc j (s.start + s.count) : Int) nx r)) j.first j.size (nxS j s (plc j (s.start + s.count)) (slt j.key (plc j (s.start + s.count) : Int) nx r)) = lds d j.first j.size s ++ [(plc j (s.start + s.count), slt j.key (plc j (s.start + s.count) : Int) nx r)] := e
  refine ⟨by show s.count + 1 = _; rw [h.ct]; simp, ?_, ?_, ?_⟩
  · rw [e', chn_snoc, h.tg]
    rfl
  · intro x hx
    rw [e'] at hx
    rcases List.mem_append.1 hx with hx | hx
    · exact h.op x hx
    · simp only [List.mem_cons, List.not_mem_nil, or_false] at hx
      rw [hx]
      exact o1
  · rw [e', List.map_append, h.rs]
    simp [o2]
theorem jn_apL (j : Jt) : ∀ (L : List ((Int × List Int) × Bool)) (d : Disk.Dk) (nx : Int) (s : Jst) (R : List ((Int × List Int) × Bool)), Up d → Jn d j.key j.first j.size s R → s.count + L.length ≤ j.size → (∀ r ∈ L, RcOk r) → 1 ≤ nx → nx + (L.length : Int) ≤ 9223372036854775807 → Jn (apL j (d, nx, 0, s) L).1 j.key j.first j.size (apL j (d, nx, 0, s) L).2.2.2 (R ++ L)
  | [], d, nx, s, R, h, hj, _, _, _, _ => by simpa [apL] using hj
  | r :: L, d, nx, s, R, h, hj, hc, hr, h1, h2 => by
    have e : apS j (d, nx, 0, s) r = (Disk.wrOk d (plc j (s.start + s.count)) (apT j (d, nx, 0, s) r), nx + 1, 0, nxS j s (plc j (s.start + s.count)) (apT j (d, nx, 0, s) r)) := by
      unfold apS
      rw [if_neg (by simp), dwr_up h]
      rfl
    have e2 : apL j (d, nx, 0, s) (r :: L) = apL j (Disk.wrOk d (plc j (s.start + s.count)) (apT j (d, nx, 0, s) r), nx + 1, 0, nxS j s (plc j (s.start + s.count)) (apT j (d, nx, 0, s) r)) L := by rw [← e]; rfl
    simp only [List.length_cons] at hc h2
    have ih := jn_apL j L (Disk.wrOk d (plc j (s.start + s.count)) (apT j (d, nx, 0, s) r)) (nx + 1) (nxS j s (plc j (s.start + s.count)) (apT j (d, nx, 0, s) r)) (R ++ [r]) (up_wr h _ _) (hj.step (by omega) nx ⟨h1, by omega⟩ r (hr r (by simp))) (by show s.count + 1 + L.length ≤ _; omega) (fun x hx => hr x (by simp [hx])) (by omega) (by omega)
    rw [e2]
    simpa using ih
theorem rcOk_of (L : List (Int × List Int)) (h : ∀ x ∈ L, x.2.length = 160 ∧ Byt x.2 ∧ N64 x.1) : ∀ r ∈ ofP L, RcOk r := by
  intro r hr
  obtain ⟨i, hi, rfl⟩ := List.getElem_of_mem hr
  simp only [ofP, List.getElem_mapIdx]
  exact h _ (List.getElem_mem _)
/-- Behind an Append that is taken. -/
theorem jn_appM (j : Jt) (ok : j.Ok) (d : Disk.Dk) (L : List (Int × List Int)) (hd : Up d) (hb : bad L = false) (h1 : j.st.count + L.length ≤ j.size) (h2 : j.nx + (L.length : Int) ≤ j.lim) (hL : ∀ x ∈ L, x.2.length = 160 ∧ Byt x.2 ∧ N64 x.1) {R : List ((Int × List Int) × Bool)} (hj : Jn d j.key j.first j.size j.st R) : Jn (appM j d L).1 j.key j.first j.size (appM j d L).2.2.2 (R ++ ofP L) := by
  have ht : tke j L.length = 0 := by
    unfold tke
    rw [if_neg (by omega), if_neg (by omega)]
  have h := apL_up j (ofP L) d j.nx j.st hd ⟨ok.st.lt, ok.st.bt⟩
  have e : appM j d L = apL j (d, j.nx, 0, j.st) (ofP L) := by
    unfold appM
    rw [if_neg (by rw [hb]; simp), if_neg (fun h => h ht), if_neg (fun hh => hh h.er)]
  rw [e]
  have hnx := ok.nx
  have hlm := ok.lim
  exact jn_apL j (ofP L) d j.nx j.st R hd hj (by rw [len_ofP]; exact h1) (rcOk_of L hL) hnx.1 (by rw [len_ofP]; omega)
/-- What is loaded. -/
theorem jn_load {d : Disk.Dk} {K : List Int} {f n : Nat} {s : Jst} {X : List (List (Int × List Int))} (h : Jn d K f n s ((X.map ofP).flatten)) (hX : ∀ x ∈ X, x ≠ []) : LGood d K f n s ∧ ldC d K f n s = X := by
  refine ⟨⟨h.tg, h.op, ?_⟩, ?_⟩
  · rw [h.rs]
    exact fun h0 => last_of X hX h0
  · unfold ldC
    rw [h.rs, chS_of X hX]
/-- The order of reads counts for nothing. -/
theorem Jn.rd {d : Disk.Dk} {K : List Int} {f n : Nat} {s : Jst} {R : List ((Int × List Int) × Bool)} (h : Jn d K f n s R) (L : List Nat) : Jn (rdD d L) K f n s R := ⟨h.ct, h.tg, h.op, h.rs⟩
end Go.Proofs.YtjdcccdkddnkgaaGreatDoor
namespace Go.Proofs.YtjdcccdkddnkgaaGreatDoor
set_option maxRecDepth 100000
set_option linter.unusedVariables false
open Go.RowKit Plain
def sb0 : List Int := [230, 31, 16, 2, 208, 104, 160, 50, 139, 113, 218, 67, 230, 116, 236, 215, 205, 132, 85, 43, 0, 221, 211, 1, 189, 29, 21, 61, 12, 128, 157, 220, 77, 249, 189, 197, 50, 155, 143, 187, 71, 192, 234, 251, 222, 142, 90, 118, 134, 7, 73, 101, 215, 103, 28, 111, 116, 170, 5, 110, 210, 73, 254, 107]
def sb1 : List Int := [22, 86, 16, 69, 241, 125, 142, 220, 69, 116, 96, 55, 51, 30, 92, 115, 252, 191, 134, 132, 255, 28, 234, 13, 191, 75, 165, 12, 3, 129, 135, 220, 59, 251, 157, 149, 124, 219, 118, 9, 115, 95, 16, 120, 206, 100, 14, 182, 152, 81, 213, 207, 179, 2, 120, 30, 23, 46, 174, 83, 170, 138, 18, 54]
def sb2 : List Int := [231, 16, 77, 196, 103, 183, 39, 175, 169, 138, 2, 175, 8, 81, 117, 161, 30, 4, 234, 40, 233, 216, 54, 31, 77, 172, 170, 223, 77, 150, 21, 213, 222, 41, 172, 54, 3, 245, 221, 154, 226, 206, 196, 86, 252, 59, 213, 2, 53, 49, 198, 153, 58, 221, 92, 121, 22, 168, 36, 150, 89, 198, 56, 151]
theorem blk_0 : Seal.Plain.blk k1 0 (Seal.Plain.non 0 1) = sb0 := by decide +kernel
theorem blk_1 : Seal.Plain.blk k1 1 (Seal.Plain.non 0 1) = sb1 := by decide +kernel
theorem blk_2 : Seal.Plain.blk k1 2 (Seal.Plain.non 0 1) = sb2 := by decide +kernel
def sbb : List Int := sb0 ++ (sb1 ++ sb2)
theorem stm_k1 (i : Nat) (h : i < 192) : Seal.Plain.stm k1 0 (Seal.Plain.non 0 1) i = sbb.getD i 0 := by
  unfold Seal.Plain.stm
  have l0 : sb0.length = 64 := rfl
  have l1 : sb1.length = 64 := rfl
  have hd : i / 64 = 0 ∨ i / 64 = 1 ∨ i / 64 = 2 := by omega
  rcases hd with hd | hd | hd
  · rw [hd, show ((0 : Int) + ((0 : Nat) : Int)) % 4294967296 = 0 by decide, blk_0, show i % 64 = i by omega]
    unfold sbb
    rw [getD_app_left _ _ _ (by omega)]
  · rw [hd, show ((0 : Int) + ((1 : Nat) : Int)) % 4294967296 = 1 by decide, blk_1]
    unfold sbb
    rw [getD_app, if_neg (by omega), getD_app_left _ _ _ (by omega)]
    congr 1
    omega
  · rw [hd, show ((0 : Int) + ((2 : Nat) : Int)) % 4294967296 = 2 by decide, blk_2]
    unfold sbb
    rw [getD_app, if_neg (by omega), getD_app, if_neg (by omega)]
    congr 1
    omega
theorem cr_k1 (B : List Int) : ∀ n, n ≤ 192 → Seal.Plain.cr k1 0 (Seal.Plain.non 0 1) B n = (List.range n).map (fun i => Seal.Plain.xr (B.getD i 0) (sbb.getD i 0))
  | 0, _ => rfl
  | n + 1, h => by
    rw [Seal.Plain.cr, cr_k1 B n (by omega), stm_k1 n (by omega), List.range_succ, List.map_append]
    rfl
def tb1 : List Int := padTo (bytesOf 1 8 ++ (List.range 176).map (fun i => Seal.Plain.xr ((putP ((3, z160), true)).getD i 0) (sbb.getD i 0))) 192
theorem slt_k1 : slt k1 0 1 ((3, z160), true) = tb1 := by
  unfold slt Seal.sl
  rw [len_putP ((3, z160), true) len_z160, cr_k1 _ 176 (by omega)]
  rfl
theorem link_tb : lnk z32 0 tb1 ≠ z32 := by decide +kernel
theorem link_one : lnk z32 0 (slt k1 0 1 ((3, z160), true)) ≠ z32 := by
  rw [slt_k1]
  exact link_tb
end Go.Proofs.YtjdcccdkddnkgaaGreatDoor
