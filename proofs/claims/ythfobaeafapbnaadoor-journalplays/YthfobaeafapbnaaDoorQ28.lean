/-
 What the closure of Append of package journal leaves: one record written behind the others.
-/
import Derived.Test.YthfobaeafapbnaaDoorQ27
set_option linter.unusedVariables false
set_option maxRecDepth 100000
namespace Go.Proofs.YthfobaeafapbnaaDoor
open Go.RowKit Plain
attribute [local go_sem] Oper.semAt_some
theorem scs_count (s : Jst) (c : Nat) : (scs s).set 1 (.int .u64 (c : Int)) = scs { s with count := c } := rfl
theorem scs_tag (s : Jst) (L : List Int) (hs : s.tag.length = 32) (hL : L.length = 32) : splice (scs s) 2 (L.map (Value.int .u8)) = scs { s with tag := L } := by
 simp [splice, scs, hs, hL]
def nxS (j : Jt) (s : Jst) (p : Nat) (S : List Int) : Jst := ⟨s.start, s.count + 1, lnk s.tag (p : Int) S⟩
def CloV (w0 w : World) (J D : Nat) (fp : Nat -> Prop) (j : Jt) (T : Nat) (s' : Jst) (q : Disk.Dk × Int) (e : Ending) (w' : World) : Prop :=
 ∃ fp', e = .returned (.int .i64 q.2) /\ JC w0 w' J D fp' { j with nx := j.nx + 1 } q.1 /\ w'.heap[T]? = some (.cells (sa s') 26 (0, 0)) /\ Fw (fun k => k = J ∨ k = T) w w' fp fp'
theorem bytes_at {w w' : World} {g n : Nat} {L : List Int} (h : Bytes w (some ⟨g, 0, none⟩) n L) (hs : g < w.heap.size -> w'.heap[g]? = w.heap[g]?) (hz : w.heap.size <= w'.heap.size) : Bytes w' (some ⟨g, 0, none⟩) n L := by
 refine ⟨h.1, h.2.1, fun hp => ?_⟩
 obtain ⟨b, o, e, hlt, hc⟩ := h.2.2 hp
 cases e
 exact ⟨g, 0, rfl, Nat.lt_of_lt_of_le hlt hz, fun i hi => (World.cell?_of_block (hs hlt)).trans (hc i hi)⟩
set_option maxHeartbeats 8000000 in
theorem clo_v {w0 w : World} {J D : Nat} {fp : Nat -> Prop} {j : Jt} {d : Disk.Dk} (C : JC w0 w J D fp j d) (B T : Nat) (s : Jst) (hs : OkS s) (hc : s.start + s.count <= 100000) (hB : w.heap[B]? = some (.cells #[.pointer (some ⟨J, 0, none⟩)] 39 (0, 0))) (hTr : w.heap[T]? = some (.cells (sa s) 26 (0, 0))) (nB : ¬ fp B) (nT : ¬ fp T) (BJ : B ≠ J) (TJ : T ≠ J) (BT : B ≠ T) (hT0 : w0.heap.size <= T)
  (r : Rc) (hby : Bytes w r.m.ba r.m.bl r.m.bs) (hn : N64 r.m.blk) (hl : r.m.bl = 160) (hnx : j.nx < 18446744073709551615) (hdl : 0 <= d.left /\ d.left <= 9223372036854775807) (hop : d.ops.length < 1000000) (hup : d.uw.length < 1000000)
  (p : Nat) (hp : plc j (s.start + s.count) = p) (SS : List Int) (hSS : slt j.key (p : Int) j.nx (rpl r) = SS) (q : Disk.Dk × Int) (hq : dwr d p SS = q) :
  Calls Tryd.prog 37 #[.agg (rcc r).toArray, .pointer (some ⟨B, 0, none⟩), .pointer (some ⟨T, 0, none⟩)] w fun e w' => CloV w0 w J D fp j T (if q.2 = 0 then nxS j s p SS else s) q e w' := by
 obtain ⟨s', hs'⟩ : ∃ s', (if q.2 = 0 then nxS j s p SS else s) = s' := ⟨_, rfl⟩
 rw [hs']
 have HSP : Box ((q.2 = 0 -> s' = nxS j s p SS) /\ (q.2 ≠ 0 -> s' = s)) := ⟨fun h => by rw [<- hs', if_pos h], fun h => by rw [<- hs', if_neg h]⟩
 clear hs'
 obtain ⟨S, hS⟩ : ∃ S, w.heap.size = S := ⟨_, rfl⟩
 obtain ⟨RC, hRC⟩ : ∃ A, (rcc r).toArray = A := ⟨_, rfl⟩
 rw [hRC]
 obtain ⟨w1, hw1⟩ : ∃ w1, w.alloc (.cells RC 101) = w1 := ⟨_, rfl⟩
 have hb1 : Below w.heap.size w w1 := by rw [<- hw1]; exact (Below.refl _ _).alloc (Nat.le_refl _) _
 have h1 : w1.heap[S]? = some (.cells RC 101 (0, 0)) := by rw [<- hw1]; exact al_at hS
 have hBl := (Array.getElem?_eq_some_iff.1 hB).1
 have hTl := (Array.getElem?_eq_some_iff.1 hTr).1
 have hpl : p < j.first + j.size := by rw [<- hp]; exact plc_lt j _ C.ok.lo
 have hp2 : p <= 4294967295 := by have := C.ok.hi; omega
 have hpd : p < d.n := by have := C.fit; omega
 have hSb : Byt SS := by rw [<- hSS]; exact byt_slt _ _ _ _
 have hSl : SS.length = 192 := by rw [<- hSS]; exact length_slt _ _ _ _
 -- what is read of the boxes
 have HBT : Box (∀ x, Below w.heap.size w x -> x.cell? ⟨B, 0, none⟩ = some (.pointer (some ⟨J, 0, none⟩)) /\ x.cell? ⟨T, 0, none⟩ = some (.int .u64 (s.start : Int)) /\ x.cell? ⟨T, 1, none⟩ = some (.int .u64 (s.count : Int))) := ⟨fun x hx => by
  refine ⟨?_, ?_, ?_⟩
  ·rw [cell_of_row _ _ _ _ _ _ ((hx.block B hBl).trans hB)]; rfl
  ·rw [cell_of_row _ _ _ _ _ _ ((hx.block T hTl).trans hTr)]; rfl
  ·rw [cell_of_row _ _ _ _ _ _ ((hx.block T hTl).trans hTr)]; rfl⟩
 have HPL : Box (Calls Tryd.prog 38 #[.pointer (some ⟨J, 0, none⟩), .int .u64 ((s.start + s.count : Nat) : Int)] w1 fun e w' => e = .returned (.int .u32 (p : Int)) /\ Below w1.heap.size w1 w') := ⟨by
  have := place_any (C.below hb1).rd C.ok (C.below hb1).lt (s.start + s.count) _ rfl
  rw [hp] at this
  exact this⟩
 have HR1 : Box (∀ x, Below w1.heap.size w1 x -> x.rangeAt S 0 (rcc r)) := ⟨fun x hx i v hv => by rw [cell_of_row _ _ _ _ _ _ ((hx.block S (Array.getElem?_eq_some_iff.1 h1).1).trans h1), Nat.zero_add, <- hRC]; simpa using hv⟩
 have HSE : Box (∀ x, Below w1.heap.size w1 x -> Calls Tryd.prog 39 #[.pointer (some ⟨J, 0, none⟩), .int .u32 (p : Int), .agg RC] x fun e w' => SlV w0 x J D fp j d SS e w') := ⟨fun x hx => by
  have := sealed_v (C.below (below_to hb1 hx)) p hp2 r (hby.below (below_to hb1 hx)) hn hl hnx
  rw [hRC, hSS] at this
  exact this⟩
 have HFW : Box (∀ x x2 : World, Below w1.heap.size w1 x -> Fw (fun k => k = J) x x2 fp fp -> JC w0 x2 J D fp { j with nx := j.nx + 1 } d -> x2.cell? ⟨B, 0, none⟩ = some (.pointer (some ⟨J, 0, none⟩)) /\ x2.cell? ⟨J, 0, none⟩ = some (.pointer (some ⟨D, 0, none⟩)) /\ Fw (fun k => k = J ∨ k = T) w x2 fp fp /\ x2.heap[T]? = some (.cells (sa s) 26 (0, 0)) /\ w.heap.size <= x2.heap.size) := ⟨fun x x2 hx hf hc => by
  have hwx := below_to hb1 hx
  have hz := hwx.size
  refine ⟨?_, hc.rd.disk, ((Fw.below _ fp hwx).trans hf).wider (fun k _ h => .inl h), ?_, Nat.le_trans hz hf.size⟩
  ·exact (World.cell?_of_block (hf.block (Nat.lt_of_lt_of_le hBl hz) nB BJ)).trans (HBT.out x hwx).1
  ·exact (hf.block (Nat.lt_of_lt_of_le hTl hz) nT TJ).trans ((hwx.block T hTl).trans hTr)⟩
 have HDW : Box (∀ (x2 : World) (g : Nat), JC w0 x2 J D fp { j with nx := j.nx + 1 } d -> Bytes x2 (some ⟨g, 0, none⟩) 192 SS -> w.heap.size <= g -> Calls Tryd.prog 40 #[.pointer (some ⟨D, 0, none⟩), .int .i64 (p : Int), .slice (some ⟨g, 0, none⟩) 192 192] x2 fun e w' => e = .returned (.int .i64 q.2) /\ q.1.n = d.n /\ ∃ fp', Disk.Cx w0 w' D fp' q.1 /\ Disk.Fol x2 fp w' fp') := ⟨fun x2 g hc hb hg => by
  have := dwrite_v hc.cx p (some ⟨g, 0, none⟩) 192 SS hb (fun ad e hf => by cases e; have := C.cx.hi _ hf; simp only at this; omega) hpd hdl hop hup
  rw [hq] at this
  exact this⟩
 -- behind the write
 have HEN : Box (∀ (x2 x3 : World) (fp' : Nat -> Prop) (g : Nat), JC w0 x2 J D fp { j with nx := j.nx + 1 } d -> Fw (fun k => k = J ∨ k = T) w x2 fp fp -> x2.heap[T]? = some (.cells (sa s) 26 (0, 0)) -> Bytes x2 (some ⟨g, 0, none⟩) 192 SS -> w.heap.size <= g -> w.heap.size <= x2.heap.size -> q.1.n = d.n -> Disk.Cx w0 x3 D fp' q.1 -> Disk.Fol x2 fp x3 fp' ->
   JC w0 x3 J D fp' { j with nx := j.nx + 1 } q.1 /\ Fw (fun k => k = J ∨ k = T) w x3 fp fp' /\ x3.heap[T]? = some (.cells (sa s) 26 (0, 0)) /\ Bytes x3 (some ⟨g, 0, none⟩) 192 SS /\ ¬ fp' T /\ T < x3.heap.size) := ⟨fun x2 x3 fp' g hc hf ht hb hg hz hqn hcx hfo => by
  have hTl2 := Nat.lt_of_lt_of_le hTl hz
  refine ⟨hc.fol hcx hfo hqn, hf.trans (Fw.of_fol hfo _), (hfo.t.block T hTl2 nT).trans ht, bytes_at hb (fun hlt => hfo.t.block g hlt (fun h => by have := C.cx.hi _ h; omega)) hfo.t.size, hfo.k T hTl2 nT, Nat.lt_of_lt_of_le hTl2 hfo.t.size⟩⟩
 have HLK : Box (∀ (x : World), JC w0 x J D (fun _ => False) j d ∨ Dig.Tabs x -> True) := ⟨fun _ _ => trivial⟩
 have HLN : Box (∀ (x : World) (g : Nat), Dig.Tabs x -> Bytes x (some ⟨g, 0, none⟩) 192 SS -> Calls Tryd.prog 19 #[.agg (u8s s.tag), .int .u32 (p : Int), .slice (some ⟨g, 0, none⟩) 192 192] x fun e w' => e = .returned (.agg (u8s (lnk s.tag (p : Int) SS))) /\ Below x.heap.size x w') := ⟨fun x g ht hb => link_any s.tag (p : Int) _ 192 192 SS x ht hs.lt hs.bt ⟨by omega, by omega⟩ hb (by omega) (by omega) (by omega)⟩
 have hw3 : IntKind.u64.wrap ((s.start : Int) + (s.count : Int)) = ((s.start + s.count : Nat) : Int) := by rw [IntKind.wrap_u64]; omega
 have hw4 : IntKind.u64.wrap ((s.count : Int) + 1) = ((s.count + 1 : Nat) : Int) := by rw [IntKind.wrap_u64]; omega
 have hw5 : IntKind.i64.wrap (p : Int) = (p : Int) := by rw [IntKind.wrap_i64]; omega
 have HN : Box (w.heap.size = S) := ⟨hS⟩
 have HRC : Box ((rcc r).toArray = RC /\ (Tryd.prog.info? 101).map (·.size) = some (rcc r).length) := ⟨hRC, infoRc⟩
 have HSO : Box (OkS s /\ w0.heap.size <= T /\ J ≠ T) := ⟨hs, hT0, fun e => TJ e.symm⟩
 have HLL : Box ((lnk s.tag (p : Int) SS).length = 32 /\ Byt (lnk s.tag (p : Int) SS)) := ⟨length_dsha _, byt_dsha _⟩
 have HNX : Box (nxS j s p SS = ⟨s.start, s.count + 1, lnk s.tag (p : Int) SS⟩) := ⟨rfl⟩
 obtain ⟨c1, c2, c3⟩ := HBT.out w1 hb1
 have HB1 : Box (Below w.heap.size w w1) := ⟨hb1⟩
 generalize lnk s.tag (p : Int) SS = XX at HLN HLL HNX
 clear C hc hB hTr nB nT BJ TJ BT hT0 hby hn hl hnx hdl hop hup hp hSS hq hb1 h1 hBl hTl hpl hp2 hpd hSb hSl hS hRC hs HLK
 go_enter Tryd.func37, Tryd.ntmps37
 go_upto_region 1 with fail
 (try simp only [HN.out])
 clear hw1
 go_upto_region 2 with (go_at_call 38; refine HPL.out.mono ?_; rintro e x1 ⟨rfl, hb⟩; have H1 : Box (Below w1.heap.size w1 x1) := ⟨hb⟩; clear hb)
 have c1' := (HBT.out x1 (below_to HB1.out H1.out)).1
 have HRX : Box (x1.rangeAt S 0 (rcc r)) := ⟨HR1.out x1 H1.out⟩
 clear c1 c2 c3 HPL HR1
 go_upto_region 3 with (first
  | (refine atLoad 101 ?_; refine wpList_ldMid rfl 101 _ _ rfl Tryd.underlying101 rfl S 0 rfl (rcc r) HRC.out.2 HRX.out ?_; rw [HRC.out.1])
  | (go_at_call 39; refine (HSE.out x1 H1.out).mono ?_; rintro e x2 ⟨g, rfl, hg1, hg2, hg3, hg4⟩; have H2 : Box (Bytes x2 (some ⟨g, 0, none⟩) 192 SS /\ w.heap.size <= g /\ JC w0 x2 J D fp { j with nx := j.nx + 1 } d /\ Fw (fun k => k = J) x1 x2 fp fp) := ⟨hg1, Nat.le_trans (below_to HB1.out H1.out).size hg2, hg3, hg4⟩; clear hg1 hg2 hg3 hg4))
 clear HSE HRX c1'
 obtain ⟨e1, e2, e3, e4, e5⟩ := HFW.out x1 x2 H1.out H2.out.2.2.2 H2.out.2.2.1
 have H3 : Box (Fw (fun k => k = J ∨ k = T) w x2 fp fp /\ x2.heap[T]? = some (.cells (sa s) 26 (0, 0)) /\ w.heap.size <= x2.heap.size) := ⟨e3, e4, e5⟩
 clear e3 e4 e5 HFW
 go_upto_region 4 with (go_at_call 40; refine (HDW.out x2 g H2.out.2.2.1 H2.out.1 H2.out.2.1).mono ?_; rintro e x3 ⟨rfl, hqn, fp', hcx, hfo⟩; have H4 : Box _ := ⟨HEN.out x2 x3 fp' g H2.out.2.2.1 H3.out.1 H3.out.2.1 H2.out.1 H2.out.2.1 H3.out.2.2 hqn hcx hfo⟩; clear hqn hcx hfo)
 clear e1 e2 HDW HEN
 obtain ⟨qd, qe⟩ := q
 simp only at *
 by_cases h0 : qe = 0
 ·have HE : Box (qe = 0) := ⟨h0⟩
  have h0b : (qe != 0) = false := by simp [h0]
  have h0c : (qe == 0) = true := by simp [h0]
  have es := HSP.out.1 h0
  subst es
  obtain ⟨f1, f2, f3, f4, f5, f6⟩ := H4.out
  have d1 : x3.cell? ⟨T, 1, none⟩ = some (.int .u64 (s.count : Int)) := by rw [cell_of_row _ _ _ _ _ _ f3]; rfl
  have d2 : x3.frozen? ⟨T, 1, none⟩ = false := frozen_of_row _ _ _ _ _ f3
  clear f1 f2 f3 f4 f5 f6 h0
  go_upto_region 7 with fail
  obtain ⟨y, hy⟩ : ∃ y, x3.setCell ⟨T, 1, none⟩ (.int .u64 ((s.count : Int) + 1)) = y := ⟨_, rfl⟩
  simp only [hy]
  have hyr : y.heap[T]? = some (.cells (sa { s with count := s.count + 1 }) 26 (0, 0)) := by
   rw [<- hy, heap_setCell_same x3 T 1 _ _ _ H4.out.2.2.1, sa, List.setIfInBounds_toArray, show (s.count : Int) + 1 = ((s.count + 1 : Nat) : Int) by omega, scs_count]
   rfl
  have hyb : But T x3 y := by rw [<- hy]; exact (But.refl _ _).setCell 1 _
  obtain ⟨f1, f2, f3, f4, f5, f6⟩ := H4.out
  have Cy := f1.set T hyb f5 (fun e => HSO.out.2.2 e.symm) HSO.out.2.1
  have HY : Box (JC w0 y J D fp' { j with nx := j.nx + 1 } qd /\ y.heap[T]? = some (.cells (sa { s with count := s.count + 1 }) 26 (0, 0)) /\ Fw (fun k => k = J ∨ k = T) w y fp fp') := ⟨Cy, hyr, f2.trans (Fw.of_but _ (.inr rfl) hyb fp')⟩
  have HTG : Box (y.rangeAt T 2 (s.tag.map (Value.int .u8))) := ⟨fun i v hv => by
   rw [cell_of_row _ _ _ _ _ _ hyr, sa, List.getElem?_toArray, show 2 + i = i + 1 + 1 by omega, scs, List.getElem?_cons_succ, List.getElem?_cons_succ]
   exact hv⟩
  have HIT : Box ((Tryd.prog.info? 23).map (·.size) = some (s.tag.map (Value.int .u8)).length /\ (s.tag.map (Value.int .u8)).toArray = u8s s.tag) := ⟨by rw [List.length_map, HSO.out.1.lt]; exact infoSum, rfl⟩
  have HGB : Box (Bytes y (some ⟨g, 0, none⟩) 192 SS) := ⟨by
   refine bytes_at f4 (fun hlt => hyb.block g hlt (fun e => ?_)) hyb.size
   have := H2.out.2.1
   have hb := f4.2.2 (by omega)
   obtain ⟨b, o, e', _, hcc⟩ := hb
   cases e'
   have h5 := hcc 0 (by omega)
   rw [e, cell_of_row _ _ _ _ _ _ f3] at h5
   simp [sa, scs] at h5⟩
  clear f1 f2 f3 f4 f5 f6 hyr hyb Cy hy d1 d2
  have HLN1 : Box (Calls Tryd.prog 19 #[.agg (u8s s.tag), .int .u32 (p : Int), .slice (some ⟨g, 0, none⟩) 192 192] y fun e w' => e = .returned (.agg (u8s XX)) /\ Below y.heap.size y w') := ⟨HLN.out y g (HY.out.1.dig.below HY.out.1.cx.bel) HGB.out⟩
  clear HLN
  have HXI : Box ((Tryd.prog.info? 23).map (·.size) = some (u8s XX).size) := ⟨by rw [size_u8s, HLL.out.1]; exact infoSum⟩
  go_upto_region 8 with (first
   | (refine atLoad 23 ?_; refine wpList_ldMid rfl 23 _ _ rfl Tryd.underlying23 rfl T 2 rfl (s.tag.map (Value.int .u8)) HIT.out.1 HTG.out ?_; rw [HIT.out.2])
   | (go_at_call 19; refine HLN1.out.mono ?_; rintro e x4 ⟨rfl, hb⟩; have H5 : Box (Below y.heap.size y x4 /\ x4.heap[T]? = some (.cells (sa { s with count := s.count + 1 }) 26 (0, 0))) := ⟨hb, (hb.block T (Array.getElem?_eq_some_iff.1 HY.out.2.1).1).trans HY.out.2.1⟩; have HTH : Box (x4.there T 2 (u8s XX).size) := ⟨there_row H5.out.2 (by rw [size_u8s, HLL.out.1, sa, List.size_toArray]; simp [scs, HSO.out.1.lt])⟩; clear hb)
   | (refine atStore _ ?_; refine wpList_store_mid rfl 23 _ _ rfl T 2 (u8s XX) rfl rfl HTH.out HXI.out (all_u8s XX) ?_))
  obtain ⟨z, hz⟩ : ∃ z, x4.setCells T 2 (u8s XX).toList = z := ⟨_, rfl⟩
  (try simp only [hz])
  have hzr : z.heap[T]? = some (.cells (sa ⟨s.start, s.count + 1, XX⟩) 26 (0, 0)) := by
   rw [<- hz, show (u8s XX).toList = XX.map (Value.int .u8) by simp [u8s], setCells_row T _ _ 2 (scs { s with count := s.count + 1 }) x4 H5.out.2 (by simp [scs, HSO.out.1.lt, HLL.out.1]), scs_tag { s with count := s.count + 1 } XX HSO.out.1.lt HLL.out.1]
   rfl
  have hzb : But T x4 z := by rw [<- hz]; exact but_setCells T _ 2 _ _ (But.refl _ _)
  have Cx4 := HY.out.1.below H5.out.1
  have HZ : Box (JC w0 z J D fp' { j with nx := j.nx + 1 } qd /\ z.heap[T]? = some (.cells (sa (nxS j s p SS)) 26 (0, 0)) /\ Fw (fun k => k = J ∨ k = T) w z fp fp') := ⟨Cx4.set T hzb H4.out.2.2.2.2.1 (fun e => HSO.out.2.2 e.symm) HSO.out.2.1, by rw [HNX.out]; exact hzr, (HY.out.2.2.trans (Fw.below _ fp' H5.out.1)).trans (Fw.of_but _ (.inr rfl) hzb fp')⟩
  clear hz hzr hzb Cx4
  go_wp2
  go_ret
  exact ⟨fp', by rw [HE.out]; rfl, HZ.out⟩
 ·have h0b : (qe != 0) = true := by simp [h0]
  have h0c : (qe == 0) = false := by simp [h0]
  have es := HSP.out.2 h0
  subst es
  clear h0
  go_wp2
  go_ret
  exact ⟨fp', rfl, H4.out.1, H4.out.2.2.1, H4.out.2.1⟩
end Go.Proofs.YthfobaeafapbnaaDoor
