/-
 What Append of package journal leaves, where records may be written. And what follows it.
-/
import Derived.Test.YthfobaeafapbnaaDoorQ31
import Derived.Laws.StructEq
import Derived.ChangeKeysEq
set_option linter.unusedVariables false
set_option maxRecDepth 100000
namespace Go.Proofs.YthfobaeafapbnaaDoor
open Go.RowKit Plain
attribute [local go_sem] Oper.semAt_some
structure ApR (w0 x wr : World) (J D T : Nat) (fp : Nat -> Prop) (j : Jt) (d : Disk.Dk) (k : Nat) (y : Ast) : Prop where
 ok : y.2.2.1 = 0
 apk : Apk j d k y
 ex : ∃ fpk, JC w0 wr J D fpk { j with nx := y.2.1 } y.1 /\ wr.heap[T]? = some (.cells (sa y.2.2.2) 26 (0, 0)) /\ Fw (fun i => i = J ∨ i = T) x wr fp fpk
theorem tke_zero {j : Jt} {n : Nat} (h : tke j n = 0) : j.st.count + n <= j.size /\ j.nx + (n : Int) <= j.lim ∨ n = 0 := by
 unfold tke at h
 split at h
 ·cases h
 ·split at h
  ·cases h
  ·omega
set_option maxHeartbeats 8000000 in
theorem append_go {w0 w : World} {J D : Nat} {fp : Nat -> Prop} {j : Jt} {d : Disk.Dk} (C : JC w0 w J D fp j d) (a : Option Addr) (cap : Nat) (M : List Im) (hM : Imgs w a M) (hl : M.length <= 1000) (hmx : ∀ m ∈ M, m.bl <= 100000) (hbad : bad (M.map pl) = false) (htk : tke j M.length = 0) (hdl : 0 <= d.left /\ d.left <= 9223372036854775807) (hop : d.ops.length < 900000) (hup : d.uw.length < 900000)
  (Y : Ast) (hY : apL j (d, j.nx, 0, j.st) (ofP (M.map pl)) = Y) :
  Calls Tryd.prog 16 #[.pointer (some ⟨J, 0, none⟩), .slice a M.length cap] w fun e w' => ApV w0 w J D fp j (if Y.2.2.1 ≠ 0 then (Y.1, Y.2.1, Y.2.2.1, zs) else Y) e w' := by
 obtain ⟨B, hB⟩ : ∃ B, w.heap.size = B := ⟨_, rfl⟩
 obtain ⟨w1, hw1⟩ : ∃ w1, (w.alloc (.cells #[.pointer (some ⟨J, 0, none⟩)] 39)).alloc (.cells (sa zs) 26) = w1 := ⟨_, rfl⟩
 have hb1 : Below w.heap.size w w1 := by rw [<- hw1]; exact ((Below.refl _ _).alloc (Nat.le_refl _) _).alloc (by simp) _
 have k1 : w1.heap[B]? = some (.cells #[.pointer (some ⟨J, 0, none⟩)] 39 (0, 0)) := by rw [<- hw1]; exact al_old (al_at hB)
 have k2 : w1.heap[B + 1]? = some (.cells (sa zs) 26 (0, 0)) := by rw [<- hw1]; exact al_at (by simp [hB])
 have C1 := C.below hb1
 have HNO : Box (Calls Tryd.prog 30 #[.pointer (some ⟨J, 0, none⟩)] w1 fun e w' => e = .returned (.bool false) /\ w1 = w') := ⟨none_no C1.rd C.ok.lo⟩
 have HBX : Box (∀ x, Below w1.heap.size w1 x -> x.cell? ⟨B, 0, none⟩ = some (.pointer (some ⟨J, 0, none⟩)) /\ x.heap[B + 1]? = some (.cells (sa zs) 26 (0, 0))) := ⟨fun x hx => ⟨by rw [cell_of_row _ _ _ _ _ _ ((hx.block B (Array.getElem?_eq_some_iff.1 k1).1).trans k1)]; rfl, (hx.block (B + 1) (Array.getElem?_eq_some_iff.1 k2).1).trans k2⟩⟩
 have HIZ : Box ((Tryd.prog.info? 26).map (·.size) = some (sa zs).size) := ⟨by rw [size_sa okS_zs]; exact infoSt⟩
 have HB : Box (w.heap.size = B) := ⟨hB⟩
 have hs2 : (w.alloc (.cells #[.pointer (some ⟨J, 0, none⟩)] 39)).heap.size = B + 1 := by simp [hB]
 have c1 := (HBX.out w1 (Below.refl _ _)).1
 obtain ⟨Y', hY'⟩ : ∃ Y', (if Y.2.2.1 ≠ 0 then (Y.1, Y.2.1, Y.2.2.1, zs) else Y) = Y' := ⟨_, rfl⟩
 rw [hY']
 obtain ⟨n, hn⟩ : ∃ n, M.length = n := ⟨_, rfl⟩
 have hn0 : 0 < n := by
  rw [<- hn]
  cases M with
  | nil => simp [bad] at hbad
  | cons m M => simp
 have hall : ∀ m ∈ M, m.bl = 160 := fun m hm => by
  simp only [bad, List.isEmpty_map, Bool.or_eq_false_iff, List.any_eq_false, List.mem_map, decide_eq_true_eq] at hbad
  have := hbad.2 (pl m) ⟨m, hm, rfl⟩
  rw [<- (hM.byt m hm).1.1]
  simpa [pl] using this
 have HOF : Box (Calls Tryd.prog 35 #[.slice a n cap] w1 fun e w' => ∃ g R, e = .returned (.tuple #[.slice (some ⟨g, 0, none⟩) n n, .int .i64 0]) /\ ORecs w' w1.heap.size (.slice (some ⟨g, 0, none⟩) n n) R /\ R.length = n /\ R.map rpl = ofP (M.map pl) /\ (∀ r ∈ R, r.m.bl = 160) /\ Below w1.heap.size w1 w') := ⟨by
  have := of_ok a cap M w1 (hM.below hb1) hl (by omega) hall
  rw [hn] at this
  refine this.mono ?_
  rintro e w' ⟨g, R, h1, h2, h3, h4, h5⟩
  refine ⟨g, R, h1, h2, h3, h4, fun r hr => ?_, h5⟩
  have h6 : rpl r ∈ ofP (M.map pl) := by rw [<- h4]; exact List.mem_map_of_mem hr
  obtain ⟨i, hi, e6⟩ := List.getElem_of_mem h6
  have h7 : (rpl r).1 ∈ M.map pl := by
   rw [<- e6]
   simp only [ofP, List.getElem_mapIdx]
   exact List.getElem_mem _
  obtain ⟨m, hm, e7⟩ := List.mem_map.1 h7
  have e8 : r.m.bs = m.bs := by have := congrArg Prod.snd e7; simpa [rpl, pl] using this.symm
  have h8 := (h2.byt r hr).byi.1.1
  rw [e8, (hM.byt m hm).1.1, hall m hm] at h8
  exact h8.symm⟩
 have HTK : Box (∀ x, Below w1.heap.size w1 x -> Calls Tryd.prog 36 #[.pointer (some ⟨J, 0, none⟩), .int .u64 (n : Int)] x fun e w' => e = .returned (.int .i64 0) /\ Below x.heap.size x w') := ⟨fun x hx => by
  have := takes_any (C1.below hx).row C.ok n (by omega)
  rw [<- hn, htk, hn] at this
  exact this⟩
 have htz : j.st.count + n <= j.size /\ j.nx + (n : Int) <= j.lim := by
  rcases tke_zero htk with h | h
  ·rw [hn] at h; exact h
  ·omega
 have hJl := C.lt
 have HJS : Box (∀ x, Below w1.heap.size w1 x -> x.rangeAt J 35 (scs j.st)) := ⟨fun x hx => (C1.jrd hx).st⟩
 have HSZ : Box ((Tryd.prog.info? 26).map (·.size) = some (scs j.st).length /\ (Tryd.prog.info? 26).map (·.size) = some (sa j.st).size /\ (sa zs).size = (sa j.st).size /\ (scs j.st).toArray = sa j.st) := ⟨by rw [len_scs C.ok.st]; exact infoSt, by rw [size_sa C.ok.st]; exact infoSt, by rw [size_sa C.ok.st, size_sa okS_zs], rfl⟩
 -- the loop begins
 have HBE : Box (∀ x x4 T, Below w1.heap.size w1 x -> x.heap.size = T -> Below x.heap.size x x4 -> x4.heap[T]? = some (.cells (sa j.st) 26 (0, 0)) -> ApR w0 x4 x4 J D T fp j d 0 (apL j (d, j.nx, 0, j.st) ((ofP (M.map pl)).take 0))) := ⟨fun x x4 T hx hT hx4 ht => by
  refine ⟨rfl, apk_take j C.ok d _ 0 (Nat.zero_le _), fp, (C1.below (below_to hx hx4)), ht, Fw.refl _ _ _⟩⟩
 -- one round's call
 have HCL : Box (∀ (x x4 wr y : World) (T k g : Nat) (R : List Rc) (r : Rc) (Yk : Ast), Below w1.heap.size w1 x -> x.heap.size = T -> Below x.heap.size x x4 -> T < x4.heap.size -> ORecs x w1.heap.size (.slice (some ⟨g, 0, none⟩) n n) R -> R.length = n -> R.map rpl = ofP (M.map pl) -> (∀ r ∈ R, r.m.bl = 160) -> ApR w0 x4 wr J D T fp j d k Yk -> (hk : k < R.length) -> R[k] = r -> Below wr.heap.size wr y ->
   Calls Tryd.prog 37 #[.agg (rcc r).toArray, .pointer (some ⟨B, 0, none⟩), .pointer (some ⟨T, 0, none⟩)] y fun e w' => ∃ fp', e = .returned (.int .i64 (apS j Yk (rpl r)).2.2.1) /\ JC w0 w' J D fp' { j with nx := (apS j Yk (rpl r)).2.1 } (apS j Yk (rpl r)).1 /\ w'.heap[T]? = some (.cells (sa (apS j Yk (rpl r)).2.2.2) 26 (0, 0)) /\ Fw (fun i => i = J ∨ i = T) x4 w' fp fp') := ⟨fun x x4 wr y T k g R r Yk hx hT hx4 hT4 hR hRl hRm hRa hA hk hr hy => by
  obtain ⟨fpk, Ck, ht, hf⟩ := hA.ex
  have hz1 := hb1.size
  have hz2 := hx.size
  have hz4 := hx4.size
  have hB1 : B + 1 < w1.heap.size := (Array.getElem?_eq_some_iff.1 k2).1
  have hfpl : ∀ i, fp i -> i < B := fun i hi => by have := C.cx.hi i hi; omega
  have old : ∀ i, B <= i -> i < x.heap.size -> y.heap[i]? = x.heap[i]? /\ ¬ fpk i := fun i h1 h2 => by
   have n1 : ¬ fp i := fun h => by have := hfpl i h; omega
   have n2 : ¬ (i = J ∨ i = T) := by omega
   have e1 := hf.block (k := i) (by omega) n1 n2
   have e2 := hx4.block i h2
   have e3 := hy.block i (by have := hf.size; omega)
   exact ⟨e3.trans (e1.trans e2), hf.k i (by omega) n1⟩
  have hrm : r ∈ R := by rw [<- hr]; exact List.getElem_mem hk
  have hO := hR.byt r hrm
  have hby : Bytes y r.m.ba r.m.bl r.m.bs := by
   have ho := hO.own
   have := own_same (w' := y) ho (fun i hi => (old i (by have := (ho.lt i hi).1; omega) (ho.lt i hi).2).1)
   exact own_bytes this hO.byt
  have Cy := Ck.below hy
  have hok := C.ok
  obtain ⟨s1, s2, s3, s4, s5⟩ := hA.apk.st hA.ok
  have hgw := hA.apk.gw
  have hkn : k < n := by rw [<- hRl]; exact hk
  have htl : T < wr.heap.size := (Array.getElem?_eq_some_iff.1 ht).1
  have hsl := hok.sl
  have hhi := hok.hi
  have hlm := hok.lim
  have o1 := hgw.ops
  have o2 := hgw.uw
  have o3 := hgw.left hdl
  have nT : ¬ fpk T := hf.k T hT4 (fun h => by have := hfpl T h; omega)
  have hw0 := C.cx.bel.size
  have he0 := hA.ok
  have hBy := old B (Nat.le_refl _) (by omega)
  have hBr : y.heap[B]? = some (.cells #[.pointer (some ⟨J, 0, none⟩)] 39 (0, 0)) := hBy.1.trans ((hx.block B (by omega)).trans k1)
  have hTy : y.heap[T]? = some (.cells (sa Yk.2.2.2) 26 (0, 0)) := (hy.block T htl).trans ht
  have := clo_v Cy B T Yk.2.2.2 ⟨s4, s5, by omega, by omega⟩ (by omega) hBr hTy hBy.2 nT (by omega) (by omega) (by omega) (by omega) r hby hO.num (hRa r hrm) (by show Yk.2.1 < _; omega) o3 (by omega) (by omega) (apP j Yk) rfl (apT j Yk (rpl r)) rfl _ rfl
  have e : apS j Yk (rpl r) = ((dwr Yk.1 (apP j Yk) (apT j Yk (rpl r))).1, Yk.2.1 + 1, (dwr Yk.1 (apP j Yk) (apT j Yk (rpl r))).2, if (dwr Yk.1 (apP j Yk) (apT j Yk (rpl r))).2 = 0 then nxS j Yk.2.2.2 (apP j Yk) (apT j Yk (rpl r)) else Yk.2.2.2) := by unfold apS; rw [if_neg (fun h => h he0)]
  rw [e]
  refine this.mono ?_
  rintro e w' ⟨fp', q1, q2, q3, q4⟩
  exact ⟨fp', q1, q2, q3, (hf.trans (Fw.below _ fpk hy)).trans q4⟩⟩
 -- what is loaded of the records
 have HLD : Box (∀ (x x4 wr : World) (T k g : Nat) (R : List Rc) (Yk : Ast) (hk : k < R.length), Below w1.heap.size w1 x -> x.heap.size = T -> Below x.heap.size x x4 -> ORecs x w1.heap.size (.slice (some ⟨g, 0, none⟩) n n) R -> R.length = n -> ApR w0 x4 wr J D T fp j d k Yk -> wr.rangeAt g (0 + k * 3) (rcc R[k])) := ⟨fun x x4 wr T k g R Yk hk hx hT hx4 hR hRl hA => by
  obtain ⟨fpk, Ck, ht, hf⟩ := hA.ex
  have hz1 := hb1.size
  have hz2 := hx.size
  have hz4 := hx4.size
  have hrow := hR.row
  rw [hRl] at hrow
  obtain ⟨b, o, e, hlt, hr⟩ := own_tb (f := rcc) (fun _ => rfl) hrow hRl (by omega)
  cases e
  have hgl : w1.heap.size <= g := (own_blk hR.row g rfl).1
  have n1 : ¬ fp g := fun h => by have := C.cx.hi g h; omega
  have e1 := hf.block (k := g) (by omega) n1 (by omega)
  have e2 := hx4.block g hlt
  intro i v hv
  exact (World.cell?_of_block (e1.trans e2)).trans (hr k hk i v hv)⟩
 -- the end
 have HFI : Box (∀ (x4 wr : World) (T : Nat) (fpk : Nat -> Prop) (j' : Jt) (d' : Disk.Dk) (s : Jst), w1.heap.size <= T -> Below w1.heap.size w1 x4 -> JC w0 wr J D fpk j' d' -> Fw (fun i => i = J ∨ i = T) x4 wr fp fpk -> wr.heap[B + 1]? = some (.cells (sa zs) 26 (0, 0)) /\ JC w0 (wr.setRow (B + 1) (sa s)) J D fpk j' d' /\ Fw (fun i => i = J) w (wr.setRow (B + 1) (sa s)) fp fpk) := ⟨fun x4 wr T fpk j' d' s hT hx4 hC hf => by
  have hz1 := hb1.size
  have hz4 := hx4.size
  have hB1 : B + 1 < w1.heap.size := (Array.getElem?_eq_some_iff.1 k2).1
  have hw0 := C.cx.bel.size
  have n1 : ¬ fp (B + 1) := fun h => by have := C.cx.hi _ h; omega
  have hbt : But (B + 1) wr (wr.setRow (B + 1) (sa s)) := but_setRow _ _ _
  refine ⟨(hf.block (k := B + 1) (by omega) n1 (by omega)).trans ((hx4.block (B + 1) hB1).trans k2), hC.set (B + 1) hbt (hf.k _ (by omega) n1) (by omega) (by omega), ?_⟩
  have h1 : Fw (fun i => i = J ∨ i = T ∨ i = B + 1) w x4 fp fp := Fw.below _ fp (below_to hb1 hx4)
  have h2 : Fw (fun i => i = J ∨ i = T ∨ i = B + 1) x4 wr fp fpk := hf.wider (fun i _ h => by omega)
  have h3 : Fw (fun i => i = J ∨ i = T ∨ i = B + 1) wr (wr.setRow (B + 1) (sa s)) fpk fpk := Fw.of_but _ (.inr (.inr rfl)) hbt fpk
  exact ((h1.trans h2).trans h3).wider (fun i hi h => by omega)⟩
 have HYL : Box (∀ (R : List Rc) (k : Nat) (hk : k < R.length) (r : Rc), R.length = n -> R.map rpl = ofP (M.map pl) -> R[k] = r -> apL j (d, j.nx, 0, j.st) ((ofP (M.map pl)).take (k + 1)) = apS j (apL j (d, j.nx, 0, j.st) ((ofP (M.map pl)).take k)) (rpl r) /\ ((apS j (apL j (d, j.nx, 0, j.st) ((ofP (M.map pl)).take k)) (rpl r)).2.2.1 ≠ 0 -> Y = apS j (apL j (d, j.nx, 0, j.st) ((ofP (M.map pl)).take k)) (rpl r))) := ⟨fun R k hk r hRl hRm hr => by
  have hk2 : k < (ofP (M.map pl)).length := by rw [<- hRm, List.length_map]; exact hk
  have e1 : (ofP (M.map pl))[k] = rpl r := by simp only [<- hRm, List.getElem_map, hr]
  have e2 : apL j (d, j.nx, 0, j.st) ((ofP (M.map pl)).take (k + 1)) = apS j (apL j (d, j.nx, 0, j.st) ((ofP (M.map pl)).take k)) (rpl r) := by rw [List.take_succ_eq_append_getElem hk2, apL_snoc, e1]
  refine ⟨e2, fun h => ?_⟩
  rw [<- hY, apL_split j _ _ (k + 1), e2, apL_stop j _ h]⟩
 have HAK : Box (∀ (y : Ast) (k : Nat) (r : Rc), Apk j d k y -> Apk j d (k + 1) (apS j y (rpl r))) := ⟨fun y k r h => apk_step h _⟩
 have HLE : Box ((ofP (M.map pl)).take n = ofP (M.map pl) /\ apL j (d, j.nx, 0, j.st) (ofP (M.map pl)) = Y /\ (Y.2.2.1 = 0 -> Y' = Y) /\ (Y.2.2.1 ≠ 0 -> Y' = (Y.1, Y.2.1, Y.2.2.1, zs)) /\ n <= 1000) := ⟨List.take_of_length_le (by rw [len_ofP, List.length_map]; omega), hY, fun h => by rw [<- hY', if_neg (fun h2 => h2 h)], fun h => by rw [<- hY', if_pos h], by omega⟩
 have hw6 : IntKind.u64.wrap (n : Int) = (n : Int) := by rw [IntKind.wrap_u64]; omega
 rw [hn]
 have HB1L : Box (w1.heap.size = w1.heap.size) := ⟨rfl⟩
 generalize ofP (M.map pl) = OL at *
 clear C hM hl hmx hbad hb1 k1 k2 C1 hB hn htk hdl hop hup hY hY' hall htz hJl HB1L
 go_enter Tryd.func16, Tryd.ntmps16
 go_upto_region 1 with (refine atAlloc _ ?_; refine wpList_run rfl _ _ (exec_alloc 26 rfl _ zeroSt) ?_)
 (try rw [hs2])
 (try simp only [HB.out])
 clear hw1 hs2
 go_upto_region 6 with (first
  | (go_at_call 30; refine HNO.out.mono ?_; rintro e x1 ⟨rfl, rfl⟩)
  | (go_at_call 35; refine HOF.out.mono ?_; rintro e x2 ⟨g, R, rfl, h1, h2, h3, h4, hb⟩; have H2 : Box (Below w1.heap.size w1 x2 /\ ORecs x2 w1.heap.size (.slice (some ⟨g, 0, none⟩) n n) R /\ R.length = n /\ R.map rpl = OL /\ ∀ r ∈ R, r.m.bl = 160) := ⟨hb, h1, h2, h3, h4⟩; clear hb h1 h2 h3 h4))
 have c2 := (HBX.out x2 H2.out.1).1
 clear HOF HNO c1
 go_upto_region 9 with (go_at_call 36; refine (HTK.out x2 H2.out.1).mono ?_; rintro e x3 ⟨rfl, hb⟩; have H3 : Box (Below w1.heap.size w1 x3 /\ ORecs x3 w1.heap.size (.slice (some ⟨g, 0, none⟩) n n) R) := ⟨below_to H2.out.1 hb, H2.out.2.1.to hb⟩; clear hb)
 have c3 := (HBX.out x3 H3.out.1).1
 have HRS : Box (x3.rangeAt J 35 (scs j.st)) := ⟨HJS.out x3 H3.out.1⟩
 clear HTK c2 HJS
 go_upto_region 10 with (first
  | (refine atLoad 26 ?_; refine wpList_ldMid rfl 26 _ _ rfl Tryd.underlying26 rfl J 35 rfl (scs j.st) HSZ.out.1 HRS.out ?_; rw [HSZ.out.2.2.2])
  | (refine atAlloc _ ?_; refine wpList_run rfl _ _ (exec_alloc 26 rfl _ zeroSt) ?_)
  | (refine atStore _ ?_; refine wpList_newRow x3 (sa zs) (sa j.st) HSZ.out.2.1 HSZ.out.2.2.1 (all_sa j.st) rfl _ _ rfl rfl rfl rfl ?_; intro x4 h4 hb4; have H4 : Box (x4.heap[x3.heap.size]? = some (.cells (sa j.st) 26 (0, 0)) /\ Below x3.heap.size x3 x4) := ⟨h4, hb4⟩; clear h4 hb4))
 obtain ⟨T, hT⟩ : ∃ T, x3.heap.size = T := ⟨_, rfl⟩
 (try simp only [hT])
 have HT : Box (x3.heap.size = T /\ T < x4.heap.size /\ w1.heap.size <= T /\ Below w1.heap.size w1 x4) := ⟨hT, by rw [<- hT]; exact (Array.getElem?_eq_some_iff.1 H4.out.1).1, by rw [<- hT]; exact H3.out.1.size, below_to H3.out.1 H4.out.2⟩
 have HST : Box (ApR w0 x4 x4 J D T fp j d 0 (apL j (d, j.nx, 0, j.st) (OL.take 0))) := ⟨HBE.out x3 x4 T H3.out.1 HT.out.1 H4.out.2 (by rw [<- HT.out.1]; exact H4.out.1)⟩
 clear hT HBE HRS c3
 go_wp2
 go_loopw [42] (fun i wr => ∃ k : Nat, k <= n /\ i = .int .i64 (k : Int) /\ Box (ApR w0 x4 wr J D T fp j d k (apL j (d, j.nx, 0, j.st) (OL.take k)))) (fun i _ => n - (intOf i).toNat)
 case atStart => exact ⟨0, Nat.zero_le _, rfl, HST⟩
 case round =>
  obtain ⟨k, hk, rfl, HK⟩ := hrel
  clear HST
  by_cases hlt : k < n
  ·have hlt1 : decide (k < n) = true := by simpa using hlt
   have hkR : k < R.length := by rw [H2.out.2.2.1]; exact hlt
   obtain ⟨r, hr⟩ : ∃ r, R[k] = r := ⟨_, rfl⟩
   have HRG : Box (wr.rangeAt g (0 + k * 3) (rcc r)) := ⟨by rw [<- hr]; exact HLD.out x3 x4 wr T k g R _ hkR H3.out.1 HT.out.1 H4.out.2 H3.out.2 H2.out.2.2.1 HK.out⟩
   have HY2 : Box _ := ⟨HYL.out R k hkR r H2.out.2.2.1 H2.out.2.2.2.1 hr⟩
   have HCY : Box (∀ y, Below wr.heap.size wr y -> _) := ⟨fun y hy => HCL.out x3 x4 wr y T k g R r _ H3.out.1 HT.out.1 H4.out.2 HT.out.2.1 H3.out.2 H2.out.2.2.1 H2.out.2.2.2.1 H2.out.2.2.2.2 HK.out hkR hr hy⟩
   have HAP : Box _ := ⟨HAK.out _ k r HK.out.apk⟩
   have HRI : Box ((Tryd.prog.info? 101).map (·.size) = some (rcc r).length /\ (Tryd.prog.info? 101).map (·.size) = some (rcc r).toArray.size /\ (rcc r).toArray.all (·.oneCell') = true) := ⟨infoRc, infoRc, all_rcc r⟩
   have HLT : Box (k < n /\ k <= 1000) := ⟨hlt, by have := HLE.out.2.2.2.2; omega⟩
   obtain ⟨Yk, hYk⟩ : ∃ Yk, apL j (d, j.nx, 0, j.st) (OL.take k) = Yk := ⟨_, rfl⟩
   rw [hYk] at HY2 HCY HAP
   obtain ⟨Z, hZ⟩ : ∃ Z, apS j Yk (rpl r) = Z := ⟨_, rfl⟩
   rw [hZ] at HY2 HAP
   simp only [hZ] at HCY
   have hw4 : IntKind.i64.wrap ((k : Int) + 1) = ((k + 1 : Nat) : Int) := by rw [IntKind.wrap_i64]; have := HLT.out; omega
   obtain ⟨RA, hRA⟩ : ∃ A, (rcc r).toArray = A := ⟨_, rfl⟩
   simp only [hRA] at HCY HRI
   have HRA : Box ((rcc r).toArray = RA) := ⟨hRA⟩
   clear hkR hr HK hYk hZ hRA HCL HLD HAK HYL hlt hk
   go_upto_region 14 with (first
    | (refine atIdx 96 ?_; refine wpList_run rfl _ _ (exec_idxT 96 101 Tryd.underlying96 3 infoRc _ _ rfl g 0 n n k rfl rfl HLT.out.1) ?_)
    | (refine atLoad 101 ?_; refine wpList_ldMid rfl 101 _ _ rfl Tryd.underlying101 rfl g (0 + k * 3) rfl (rcc r) HRI.out.1 HRG.out ?_; rw [HRA.out])
    | (refine atAlloc _ ?_; refine wpList_run rfl _ _ (exec_alloc 101 rfl _ zeroRc) ?_)
    | (refine atStore _ ?_; refine wpList_newRow wr #[.int .u64 0, .slice none 0 0, .bool false] RA HRI.out.2.1 (by rw [<- HRA.out]; rfl) HRI.out.2.2 rfl _ _ rfl rfl rfl rfl ?_; intro y1 h5 hb5; have H5 : Box (y1.heap[wr.heap.size]? = some (.cells RA 101 (0, 0)) /\ Below wr.heap.size wr y1) := ⟨h5, hb5⟩; clear h5 hb5))
   obtain ⟨G, hG⟩ : ∃ G, wr.heap.size = G := ⟨_, rfl⟩
   (try simp only [hG])
   rw [hG] at H5
   have HCZ : Box _ := ⟨HCY.out y1 (by rw [hG]; exact H5.out.2)⟩
   have HRY : Box (y1.rangeAt G 0 (rcc r)) := ⟨fun i v hv => by rw [cell_of_row _ _ _ _ _ _ H5.out.1, Nat.zero_add, <- HRA.out]; simpa using hv⟩
   clear hG HCY HRG
   go_upto_region 15 with (first
    | (refine atLoad 101 ?_; refine wpList_ldMid rfl 101 _ _ rfl Tryd.underlying101 rfl G 0 rfl (rcc r) HRI.out.1 HRY.out ?_; rw [HRA.out])
    | (go_at_call 37; refine HCZ.out.mono ?_; rintro e y2 ⟨fp2, rfl, q1, q2, q3⟩; have H6 : Box (JC w0 y2 J D fp2 { j with nx := Z.2.1 } Z.1 /\ y2.heap[T]? = some (.cells (sa Z.2.2.2) 26 (0, 0)) /\ Fw (fun i => i = J ∨ i = T) x4 y2 fp fp2) := ⟨q1, q2, q3⟩; clear q1 q2 q3))
   clear HCZ HRY
   obtain ⟨Zd, Zn, Ze, Zs⟩ := Z
   simp only at *
   by_cases h0 : Ze = 0
   ·have h0b : (Ze != 0) = false := by simp [h0]
    have h0c : (Ze == 0) = true := by simp [h0]
    have HNR : Box (ApR w0 x4 y2 J D T fp j d (k + 1) (apL j (d, j.nx, 0, j.st) (OL.take (k + 1)))) := ⟨by rw [HY2.out.1]; exact ⟨h0, HAP.out, fp2, H6.out.1, H6.out.2.1, H6.out.2.2⟩⟩
    clear h0
    go_wp2
    go_roundw
    case rel => exact ⟨k + 1, HLT.out.1, by go_num, HNR⟩
    case measure => simp [intOf]; have := HLT.out.1; omega
   ·have h0b : (Ze != 0) = true := by simp [h0]
    have h0c : (Ze == 0) = false := by simp [h0]
    have eY := HY2.out.2 h0
    have e3 := HLE.out.2.2.2.1 (by rw [eY]; exact h0)
    rw [eY] at e3
    obtain ⟨f1, f2, f3⟩ := HFI.out x4 y2 T fp2 _ _ zs HT.out.2.2.1 HT.out.2.2.2 H6.out.1 H6.out.2.2
    have HR : Box _ := ⟨f1⟩
    have HEX : Box (ApV w0 w J D fp j Y' (.returned (.tuple #[.agg (sa zs), .int .i64 Ze])) (y2.setRow (B + 1) (sa zs))) := ⟨by rw [e3]; exact ⟨fp2, rfl, f2, f3⟩⟩
    clear h0 eY e3 f1 f2 f3
    go_wp2_with (first
     | (refine atBuild _ ?_; refine wpList_run rfl _ _ (exec_built 26 [] rfl [] rfl _ built_St0) ?_)
     | (refine atStore _ ?_; refine wpList_store_row rfl 26 _ _ rfl (B + 1) (sa zs) rfl rfl 26 (sa zs) HR.out HIZ.out rfl (all_sa zs) ?_))
    refine bodyPost_ret (results_row2 (t := 4) (u := 5) rfl _ Tryd.underlying26 rfl _ _ (B + 1) (sa zs) HIZ.out rfl (setRow_heap _ _ _ _ _ _ HR.out)) rfl ?_
    exact HEX.out
  ·obtain rfl : k = n := by omega
   have hlt1 : decide (k < k) = false := by simp
   have hko := HK.out
   rw [HLE.out.1, HLE.out.2.1] at hko
   obtain ⟨fpk, q1, q2, q3⟩ := hko.ex
   have e3 := HLE.out.2.2.1 hko.ok
   obtain ⟨f1, f2, f3⟩ := HFI.out x4 wr T fpk _ _ Y.2.2.2 HT.out.2.2.1 HT.out.2.2.2 q1 q3
   have oks : OkS Y.2.2.2 := by
    obtain ⟨s1, s2, s3, s4, s5⟩ := hko.apk.st hko.ok
    have h1 := q1.ok.sl
    have h2 := q1.ok.hi
    have h3 := HLE.out.2.2.2.2
    have h4 := q1.ok.cl
    simp only at h1 h2 h4
    exact ⟨s4, s5, by omega, by omega⟩
   have HR : Box _ := ⟨f1⟩
   have HTS : Box (wr.rangeAt T 0 (scs Y.2.2.2) /\ (Tryd.prog.info? 26).map (·.size) = some (scs Y.2.2.2).length /\ (Tryd.prog.info? 26).map (·.size) = some (sa Y.2.2.2).size /\ (scs Y.2.2.2).toArray = sa Y.2.2.2 /\ (sa zs).size = (sa Y.2.2.2).size) := ⟨range_sa q2, by rw [len_scs oks]; exact infoSt, by rw [size_sa oks]; exact infoSt, rfl, by rw [size_sa oks, size_sa okS_zs]⟩
   have HEX : Box (ApV w0 w J D fp j Y' (.returned (.tuple #[.agg (sa Y.2.2.2), .int .i64 0])) (wr.setRow (B + 1) (sa Y.2.2.2))) := ⟨by rw [e3]; exact ⟨fpk, by rw [hko.ok], f2, f3⟩⟩
   obtain ⟨ys, hys⟩ : ∃ ys, Y.2.2.2 = ys := ⟨_, rfl⟩
   rw [hys] at HTS HEX
   clear hko q1 q2 q3 e3 f1 f2 f3 oks hys HK hk hlt
   go_wp2_with (first
    | (refine atLoad 26 ?_; refine wpList_ldMid rfl 26 _ _ rfl Tryd.underlying26 rfl T 0 rfl (scs ys) HTS.out.2.1 HTS.out.1 ?_; rw [HTS.out.2.2.2.1])
    | (refine atStore _ ?_; refine wpList_store_row rfl 26 _ _ rfl (B + 1) (sa ys) rfl rfl 26 (sa zs) HR.out HTS.out.2.2.1 HTS.out.2.2.2.2 (all_sa ys) ?_))
   refine bodyPost_ret (results_row2 (t := 4) (u := 5) rfl _ Tryd.underlying26 rfl _ _ (B + 1) (sa ys) HTS.out.2.2.1 rfl (setRow_heap _ _ _ _ _ _ HR.out)) rfl ?_
   exact HEX.out
theorem append_v {w0 w : World} {J D : Nat} {fp : Nat -> Prop} {j : Jt} {d : Disk.Dk} (C : JC w0 w J D fp j d) (a : Option Addr) (cap : Nat) (M : List Im) (hM : Imgs w a M) (hl : M.length <= 1000) (hmx : ∀ m ∈ M, m.bl <= 100000) (hdl : 0 <= d.left /\ d.left <= 9223372036854775807) (hop : d.ops.length < 900000) (hup : d.uw.length < 900000) :
  Calls Tryd.prog 16 #[.pointer (some ⟨J, 0, none⟩), .slice a M.length cap] w fun e w' => ApV w0 w J D fp j (appM j d (M.map pl)) e w' := by
 by_cases hb : bad (M.map pl) = true
 ·have e : appM j d (M.map pl) = (d, j.nx, 1, zs) := by unfold appM; rw [if_pos hb]
  rw [e]
  exact append_bad C a cap M hM hl hmx hb
 ·have hb' : bad (M.map pl) = false := by simpa using hb
  by_cases ht : tke j M.length = 0
  ·have e : appM j d (M.map pl) = if (apL j (d, j.nx, 0, j.st) (ofP (M.map pl))).2.2.1 ≠ 0 then ((apL j (d, j.nx, 0, j.st) (ofP (M.map pl))).1, (apL j (d, j.nx, 0, j.st) (ofP (M.map pl))).2.1, (apL j (d, j.nx, 0, j.st) (ofP (M.map pl))).2.2.1, zs) else apL j (d, j.nx, 0, j.st) (ofP (M.map pl)) := by
    unfold appM
    rw [if_neg hb, List.length_map, if_neg (fun h => h ht)]
   rw [e]
   exact append_go C a cap M hM hl hmx hb' ht hdl hop hup _ rfl
  ·have e : appM j d (M.map pl) = (d, j.nx, tke j M.length, zs) := by
    unfold appM
    rw [if_neg hb, List.length_map, if_pos ht]
   rw [e]
   exact append_few C a cap M hM hl hmx hb' _ rfl ht
end Go.Proofs.YthfobaeafapbnaaDoor
namespace Go.Proofs.YthfobaeafapbnaaDoor
open Go.RowKit Plain
theorem part5 (X : List Int) (i : Nat) (h : i < X.length) (w : World) : (part 5 (u8s X) (i * Tryd.prog.cellsOf 5)).run Tryd.prog w = .ok (.int .u8 (X.getD i 0)) w := by
 have hc : Tryd.prog.cellsOf 5 = 1 := by kernel_rfl
 have hagg : (isAgg 5).run Tryd.prog w = .ok false w := by kernel_rfl
 have hv : (u8s X)[i]? = some (.int .u8 (X.getD i 0)) := by simp [u8s, h]
 rw [hc, Nat.mul_one]
 simp [part, Sem.run_bind, hagg, hv]
theorem eq_items (d n : Nat) (X Y : List Int) (w : World) (hX : X.length = n) (hY : Y.length = n) : ∀ is : List Nat, (∀ i ∈ is, i < n) -> (Op.eqItems (d + 1) 5 (Tryd.prog.cellsOf 5) (u8s X) (u8s Y) is).run Tryd.prog w = .ok (is.all fun i => X.getD i 0 == Y.getD i 0) w
 | [], _ => by simp [Op.eqItems]
 | i :: is, h => by
  have ih := eq_items d n X Y w hX hY is (fun j hj => h j (List.mem_cons_of_mem _ hj))
  have hi := h i List.mem_cons_self
  have e := run_equalIn_int (P := Tryd.prog) w d 5 .u8 .u8 (X.getD i 0) (Y.getD i 0) Tryd.underlying5
  simp only [Op.eqItems, Sem.run_bind, part5 X i (by omega), part5 Y i (by omega), Result.andThen_ok, e, List.all_cons]
  cases hq : (X.getD i 0 == Y.getD i 0)
  ·simp
  ·simpa using ih
theorem all_eq (n : Nat) (X Y : List Int) (hX : X.length = n) (hY : Y.length = n) : ((List.range n).all fun i => X.getD i 0 == Y.getD i 0) = decide (X = Y) := by
 rw [Bool.eq_iff_iff, List.all_eq_true, decide_eq_true_iff]
 constructor
 ·intro h
  apply List.ext_getElem (by omega)
  intro i h1 h2
  have := h i (by simp; omega)
  simpa [List.getD, h1, h2] using this
 ·rintro rfl i _
  simp
theorem eq_sumIn (d : Nat) (X Y : List Int) (hX : X.length = 32) (hY : Y.length = 32) (w : World) : (Op.equalIn (d + 1 + 1) 23 (.agg (u8s X)) (.agg (u8s Y))).run Tryd.prog w = .ok (decide (X = Y)) w := by
 obtain ⟨i0, hi, _⟩ := info_parts info5
 rw [run_equalIn_array w (d + 1) (u8s X) (u8s Y) Tryd.underlying23 hi, eq_items d 32 X Y w hX hY _ (by simp), all_eq 32 X Y hX hY]
theorem guardSum : Tryd.prog.eqGuardType Tryd.prog.depth 23 = false := by kernel_rfl
theorem exec_neSum {o : Oper} {ρ : Operand -> Value} {w' : World} (x y : Operand) (ty : TypeId) (ho : o.op = .binOp .neq 23 x y ty) (X Y : List Int) (hX : X.length = 32) (hY : Y.length = 32) (b : Bool) (hb : (!decide (X = Y)) = b) (hx : ρ x = .agg (u8s X)) (hy : ρ y = .agg (u8s Y)) :
  (execOp ρ o).run Tryd.prog w' = .ok (.value (.bool b)) w' := by
 have e : (binOp .neq 23 (.agg (u8s X)) (.agg (u8s Y))).run Tryd.prog w' = .ok (.bool (!decide (X = Y))) w' := by
  rw [run_neq_struct, eq_sumIn 9998 X Y hX hY]; rfl
 unfold execOp
 simp only [ho, hx, hy, Sem.run_bind, run_eqGuard_agg w' .neq 23 x y _ _ guardSum, e, Result.andThen_ok, hb]
 rfl
def eqS (s t : Jst) : Bool := ((s.start : Int) == (t.start : Int)) && (((s.count : Int) == (t.count : Int)) && (decide (s.tag = t.tag) && true))
theorem eqS_iff (s t : Jst) : eqS s t = true ↔ s = t := by
 obtain ⟨a, b, c⟩ := s
 obtain ⟨a', b', c'⟩ := t
 simp only [eqS, Bool.and_true, Bool.and_eq_true, beq_iff_eq, decide_eq_true_eq, Jst.mk.injEq]
 constructor
 ·rintro ⟨h1, h2, h3⟩
  exact ⟨by omega, by omega, h3⟩
 ·rintro ⟨rfl, rfl, rfl⟩
  exact ⟨rfl, rfl, rfl⟩
theorem eqS_self (s : Jst) : eqS s s = true := (eqS_iff s s).2 rfl
theorem part_S0 (s : Jst) (w : World) : (part 24 (sa s) 0).run Tryd.prog w = .ok (.int .u64 (s.start : Int)) w := by
 have hagg : (isAgg 24).run Tryd.prog w = .ok false w := by kernel_rfl
 simp only [part, Sem.run_bind, hagg, Result.andThen_ok, Bool.false_eq_true, if_false]
 rfl
theorem part_S1 (s : Jst) (w : World) : (part 24 (sa s) 1).run Tryd.prog w = .ok (.int .u64 (s.count : Int)) w := by
 have hagg : (isAgg 24).run Tryd.prog w = .ok false w := by kernel_rfl
 simp only [part, Sem.run_bind, hagg, Result.andThen_ok, Bool.false_eq_true, if_false]
 rfl
theorem part_S2 {s : Jst} (h : OkS s) (w : World) : (part 23 (sa s) 2).run Tryd.prog w = .ok (.agg (u8s s.tag)) w := by
 have hagg : (isAgg 23).run Tryd.prog w = .ok true w := by kernel_rfl
 have hsz : (sizeOf 23).run Tryd.prog w = .ok 32 w := by kernel_rfl
 have hl := h.lt
 have e : (sa s).extract 2 34 = u8s s.tag := by
  apply Array.toList_inj.1
  simp [sa, scs, u8s, hl, List.take_of_length_le]
 simp [part, Sem.run_bind, hagg, e]
theorem eqS_fields (d : Nat) (s t : Jst) (hs : OkS s) (ht : OkS t) (w : World) (fs : List Field) (hF : fs.map (fun f => (f.name != "_", f.type, f.offset)) = [(true, 24, 0), (true, 24, 1), (true, 23, 2)]) : (Op.eqFields (d + 1 + 1) (sa s) (sa t) fs).run Tryd.prog w = .ok (eqS s t) w := by
 have hl : fs.length = 3 := by simpa using congrArg List.length hF
 match fs, hl, hF with
 | [f0, f1, f2], _, hF =>
  simp only [List.map_cons, List.map_nil, List.cons.injEq, Prod.mk.injEq, and_true] at hF
  obtain ⟨⟨a0, b0, c0⟩, ⟨a1, b1, c1⟩, ⟨a2, b2, c2⟩⟩ := hF
  have i0 := run_equalIn_int (P := Tryd.prog) w (d + 1) 24 .u64 .u64 (s.start : Int) (t.start : Int) Tryd.underlying24
  have i1 := run_equalIn_int (P := Tryd.prog) w (d + 1) 24 .u64 .u64 (s.count : Int) (t.count : Int) Tryd.underlying24
  refine eqF_step (d + 1 + 1) _ _ f0 _ _ _ a0 b0 c0 _ _ w (part_S0 s w) (part_S0 t w) _ _ (by simpa using i0)
   (eqF_step (d + 1 + 1) _ _ f1 _ _ _ a1 b1 c1 _ _ w (part_S1 s w) (part_S1 t w) _ _ (by simpa using i1)
    (eqF_step (d + 1 + 1) _ _ f2 _ _ _ a2 b2 c2 _ _ w (part_S2 hs w) (part_S2 ht w) _ true (eq_sumIn d _ _ hs.lt ht.lt w) (by simp [Op.eqFields])))
theorem fieldsSt : (Tryd.prog.fieldsOf 26).toList.map (fun f => (f.name != "_", f.type, f.offset)) = [(true, 24, 0), (true, 24, 1), (true, 23, 2)] := by kernel_rfl
theorem fieldsS13 : (Tryd.prog.fieldsOf 42).toList.map (fun f => (f.name != "_", f.type, f.offset)) = [(true, 24, 0), (true, 24, 1), (true, 23, 2)] := by kernel_rfl
theorem guardSt : Tryd.prog.eqGuardType Tryd.prog.depth 26 = false := by kernel_rfl
theorem guardS13 : Tryd.prog.eqGuardType Tryd.prog.depth 42 = false := by kernel_rfl
theorem equalIn_St (d : Nat) (s t : Jst) (hs : OkS s) (ht : OkS t) (w : World) : (Op.equalIn (d + 1 + 1 + 1) 26 (.agg (sa s)) (.agg (sa t))).run Tryd.prog w = .ok (eqS s t) w := by
 rw [run_equalIn_struct w (d + 1 + 1) 26 _ _ (by kernel_rfl) (by kernel_rfl)]
 exact eqS_fields d s t hs ht w _ fieldsSt
theorem equalIn_S13 (d : Nat) (s t : Jst) (hs : OkS s) (ht : OkS t) (w : World) : (Op.equalIn (d + 1 + 1 + 1) 42 (.agg (sa s)) (.agg (sa t))).run Tryd.prog w = .ok (eqS s t) w := by
 rw [run_equalIn_struct w (d + 1 + 1) 42 _ _ (by kernel_rfl) (by kernel_rfl)]
 exact eqS_fields d s t hs ht w _ fieldsS13
theorem exec_eqSt {o : Oper} {ρ : Operand -> Value} {w' : World} (x y : Operand) (ty : TypeId) (ho : o.op = .binOp .eql 26 x y ty) (s t : Jst) (hs : OkS s) (ht : OkS t) (b : Bool) (hb : eqS s t = b) (hx : ρ x = .agg (sa s)) (hy : ρ y = .agg (sa t)) :
  (execOp ρ o).run Tryd.prog w' = .ok (.value (.bool b)) w' := by
 have e : (binOp .eql 26 (.agg (sa s)) (.agg (sa t))).run Tryd.prog w' = .ok (.bool b) w' := by
  rw [run_eql_struct, equalIn_St 9997 s t hs ht, hb]; rfl
 unfold execOp
 simp only [ho, hx, hy, Sem.run_bind, run_eqGuard_agg w' .eql 26 x y _ _ guardSt, e, Result.andThen_ok]
 rfl
theorem exec_eqS13 {o : Oper} {ρ : Operand -> Value} {w' : World} (x y : Operand) (ty : TypeId) (ho : o.op = .binOp .eql 42 x y ty) (s t : Jst) (hs : OkS s) (ht : OkS t) (b : Bool) (hb : eqS s t = b) (hx : ρ x = .agg (sa s)) (hy : ρ y = .agg (sa t)) :
  (execOp ρ o).run Tryd.prog w' = .ok (.value (.bool b)) w' := by
 have e : (binOp .eql 42 (.agg (sa s)) (.agg (sa t))).run Tryd.prog w' = .ok (.bool b) w' := by
  rw [run_eql_struct, equalIn_S13 9997 s t hs ht, hb]; rfl
 unfold execOp
 simp only [ho, hx, hy, Sem.run_bind, run_eqGuard_agg w' .eql 42 x y _ _ guardS13, e, Result.andThen_ok]
 rfl
theorem exec_neS13 {o : Oper} {ρ : Operand -> Value} {w' : World} (x y : Operand) (ty : TypeId) (ho : o.op = .binOp .neq 42 x y ty) (s t : Jst) (hs : OkS s) (ht : OkS t) (b : Bool) (hb : (!eqS s t) = b) (hx : ρ x = .agg (sa s)) (hy : ρ y = .agg (sa t)) :
  (execOp ρ o).run Tryd.prog w' = .ok (.value (.bool b)) w' := by
 have e : (binOp .neq 42 (.agg (sa s)) (.agg (sa t))).run Tryd.prog w' = .ok (.bool b) w' := by
  rw [run_neq_struct, equalIn_S13 9997 s t hs ht, <- hb]; rfl
 unfold execOp
 simp only [ho, hx, hy, Sem.run_bind, run_eqGuard_agg w' .neq 42 x y _ _ guardS13, e, Result.andThen_ok]
 rfl
theorem exec_fieldS0 {o : Oper} {ρ : Operand -> Value} {w : World} (x : Operand) (ho : o.op = .field 26 x 0) (s : Jst) (hx : ρ x = .agg (sa s)) : (execOp ρ o).run Tryd.prog w = .ok (.value (.int .u64 (s.start : Int))) w := by
 have h : (Instr.field 26 (.agg (sa s)) 0).run Tryd.prog w = .ok (.int .u64 (s.start : Int)) w := by
  unfold Instr.field
  simp only [Sem.run_bind, run_underlying Tryd.underlying26, Result.andThen_ok]
  exact part_S0 s w
 unfold execOp
 simp only [ho, hx, Sem.run_bind, h]
 rfl
theorem atField {P : Program} {ops : Array Oper} {Q : Exit -> Act -> World -> Prop} {rest : List Oper} {a : Act} {w : World} (t : TypeId) {x : Operand} {k : Nat} {d : Option Tmp} {ty : TypeId} {p : String} {af : Array Edge} {g : Option (Nat × Bool)} (h : wpList P ops Q ({ dst := d, op := .field t x k, type := ty, pos := p, after := af, guard := g } :: rest) a w) : wpList P ops Q ({ dst := d, op := .field t x k, type := ty, pos := p, after := af, guard := g } :: rest) a w := h
theorem link_zero : lnk z32 0 [] ≠ z32 := by decide +kernel
end Go.Proofs.YthfobaeafapbnaaDoor
