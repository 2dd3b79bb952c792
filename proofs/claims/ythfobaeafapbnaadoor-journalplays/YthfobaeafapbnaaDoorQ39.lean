/-
 The law's sameDisk: a disk and the reference's that are alike are found alike. And what follows it.
-/
import Derived.Test.YthfobaeafapbnaaDoorQ01
import Derived.Deep.QuietTactic
import Derived.BigQuiet
import Derived.Test.YthfobaeafapbnaaDoorQ15
import Derived.Test.YthfobaeafapbnaaDoorQ23
import Derived.Test.YthfobaeafapbnaaDoorQ36
import Derived.Test.YthfobaeafapbnaaDoorQ33
import Derived.Test.YthfobaeafapbnaaDoorQ22
set_option linter.unusedVariables false
set_option maxRecDepth 100000
namespace Go.Proofs.YthfobaeafapbnaaDoor.Disk.Plain
end Go.Proofs.YthfobaeafapbnaaDoor.Disk.Plain
namespace Go.Proofs.YthfobaeafapbnaaDoor.Disk
open Go.RowKit Go.Proofs.YthfobaeafapbnaaDoor.Plain Go.Proofs.YthfobaeafapbnaaDoor.Disk.Plain
theorem bytes_drewN' {w : World} {a : Option Addr} {len : Nat} {L : List Int} (h : Bytes w a len L) (n : Nat) : Bytes (w.drewN n) a len L := h.below (below_drewN (Below.refl _ _) n)
theorem drewN_on {w x : World} (h : ∃ m, x = w.drewN m) (n : Nat) : ∃ m, x.drewN n = w.drewN m := by
 obtain ⟨m, rfl⟩ := h
 exact ⟨m + n, World.drewN_drewN _ _ _⟩
theorem own_at1 {w : World} {e : TypeId} {v : Value} {n : Nat} {xs : List Value} (h : w.ownsRow 0 e 1 v n xs) (h0 : 0 < n) : ∃ g cap, v = .slice (some ⟨g, 0, none⟩) n cap /\ ∀ k u, xs[k]? = some u -> w.cell? ⟨g, k, none⟩ = some u := by
 rcases h.2 with ⟨_, h2⟩ | ⟨g, cap, cur, h1, _, hg, _⟩
 ·omega
 ·refine ⟨g, cap, h1, fun k u hu => ?_⟩
  have := World.ownsRow.cells h (g := g) (by rw [h1]; rfl) k u hu
  rw [Addr.add_lit, Nat.zero_add] at this
  exact this
theorem own_bytes {w : World} {v : Value} {n : Nat} {B : List Int} (h : w.ownsRow 0 5 1 v n (B.map (Value.int .u8))) (hB : Byt B) (hl : B.length = n) : ∃ a cap, v = .slice a n cap /\ Bytes w a n B := by
 rcases h.2 with ⟨rfl, rfl⟩ | ⟨g, cap, cur, h1, _, hg, _⟩
 ·exact ⟨_, _, rfl, hl, hB, fun h => by omega⟩
 ·refine ⟨_, _, h1, hl, hB, fun _ => ⟨g, 0, rfl, (Array.getElem?_eq_some_iff.1 hg).1, fun i hi => ?_⟩⟩
  have hu : (B.map (Value.int .u8))[i]? = some (.int .u8 (B.getD i 0)) := by
   have : i < B.length := by omega
   simp [List.getD, this]
  have := World.ownsRow.cells h (g := g) (by rw [h1]; rfl) i _ hu
  rw [Addr.add_lit] at this
  exact this
theorem pls_r {k : Nat} {d : Dk} {r : Rd} (h : J k d r) (n : Nat) : (pls r.done n).map (fun B => Value.string (strOfNums B)) = (List.range n).map (fun i => .string (strOfNums (d.pl i))) := by
 simp only [pls, List.map_map]
 apply List.map_congr_left
 intro i _
 simp [h.pl]
set_option maxRecDepth 20000 in
set_option maxHeartbeats 4000000 in
theorem sameDisk_any (w0 w : World) (D k : Nat) (d : Dk) (r : Rd) (v : Value) (C : Cm w0 w D d) (hR : Rv w v r) (hJ : J k d r) (hk : k < 900000) :
  Calls Tryd.prog 15 #[.pointer (some ⟨D, 0, none⟩), v] w fun e w' => e = .returned (.bool true) /\ Below w.heap.size w w' := by
 obtain ⟨fp, ⟨P, uv, ov, hA, _⟩, _, _, _⟩ := C
 obtain ⟨vd, vw, vo, rfl, h1, h2, h3⟩ := hR
 have l1 := hJ.l1
 have l2 := hJ.l2
 have hn := hA.hn
 have hpl := hA.hpl
 have hO : d.ops.length <= k := by rw [<- hJ.ops]; exact l2
 have hLd : r.done.length < 1000000 := by omega
 rw [hJ.way] at h2
 rw [hJ.ops] at h3
 have hP := pls_r hJ d.n
 rw [hJ.n]
 generalize r.left = l
 generalize r.down = b
 generalize r.done = Ld at h1 hLd hP
 clear l1 l2 hJ
 obtain ⟨ad, cd, rfl⟩ := own_form2 h1
 obtain ⟨aw, cw, rfl⟩ := own_form2 h2
 obtain ⟨ao, co, rfl⟩ := own_form2 h3
 have hb0 : Below w.heap.size w (w.alloc (.cells (rv d.n (.slice ad Ld.length cd) (.slice aw d.uw.length cw) l b (.slice ao d.ops.length co)).toArray 36)) := (Below.refl _ _).alloc (Nat.le_refl _) _
 have H : Box (At (w.alloc (.cells (rv d.n (.slice ad Ld.length cd) (.slice aw d.uw.length cw) l b (.slice ao d.ops.length co)).toArray 36)) D P uv ov d /\ Below w.heap.size w (w.alloc (.cells (rv d.n (.slice ad Ld.length cd) (.slice aw d.uw.length cw) l b (.slice ao d.ops.length co)).toArray 36)) /\ (w.alloc (.cells (rv d.n (.slice ad Ld.length cd) (.slice aw d.uw.length cw) l b (.slice ao d.ops.length co)).toArray 36)).heap[w.heap.size]? = some (.cells (rv d.n (.slice ad Ld.length cd) (.slice aw d.uw.length cw) l b (.slice ao d.ops.length co)).toArray 36 (0, 0)) /\ Rw (w.alloc (.cells (rv d.n (.slice ad Ld.length cd) (.slice aw d.uw.length cw) l b (.slice ao d.ops.length co)).toArray 36)) (.slice ad Ld.length cd) Ld /\ Ro (w.alloc (.cells (rv d.n (.slice ad Ld.length cd) (.slice aw d.uw.length cw) l b (.slice ao d.ops.length co)).toArray 36)) (.slice ao d.ops.length co) d.ops) := ⟨hA.below hb0, hb0, al_at rfl, h1.below hb0, h3.below hb0⟩
 obtain ⟨S, HS⟩ : ∃ S, Box (w.heap.size = S) := ⟨_, ⟨rfl⟩⟩
 have HN : Box (d.n <= 4096 /\ Ld.length < 1000000 /\ d.ops.length < 1000000 /\ (∀ i, (d.pl i).length = 192 /\ Byt (d.pl i))) := ⟨hn.2, hLd, by omega, hpl⟩
 have HP : Box ((pls Ld d.n).map (fun B => Value.string (strOfNums B)) = (List.range d.n).map (fun i => .string (strOfNums (d.pl i)))) := ⟨hP⟩
 have hn9 : d.n < 9223372036854775807 := by omega
 have ho9 : d.ops.length < 9223372036854775807 := by omega
 clear hA h1 h2 h3 hb0 hn hpl hO hLd hP hk
 go_enter Tryd.func15, Tryd.ntmps15
 go_upto_region 1 with fail
 rw [HS.out] at H ⊢
 generalize hV : rv d.n (.slice ad Ld.length cd) (.slice aw d.uw.length cw) l b (.slice ao d.ops.length co) = V at H ⊢
 generalize w.alloc (.cells V.toArray 36) = w1 at H ⊢
 have HI : Box _ := ⟨image_any w1 D P uv ov d H.out.1⟩
 go_upto_region 2 with (go_at_call 32; refine HI.out.mono ?_; rintro e w2 ⟨g, Ls, rfl, hrws⟩; have H2 : Box (Rws w1 w2 g d.n d.n d.pl Ls /\ Below w1.heap.size w1 w2) := ⟨hrws, hrws.bel⟩; clear hrws)
 have HB2 : Box (w2.heap[S]? = some (.cells V.toArray 36 (0, 0)) /\ Below S w w2) := ⟨(H2.out.2.block S (Array.getElem?_eq_some_iff.1 H.out.2.2.1).1).trans H.out.2.2.1, H.out.2.1.trans (H2.out.2.mono (HS.out ▸ H.out.2.1.size))⟩
 have HR : Box _ := ⟨rimage_any w2 d.n (.slice ad Ld.length cd) (.slice aw d.uw.length cw) (.slice ao d.ops.length co) l b Ld (H.out.2.2.2.1.below H2.out.2) rfl rfl HN.out.2.1 HN.out.1⟩
 rw [hV] at HR
 have hV6 : V.length = 6 := by rw [<- hV]; rfl
 go_upto_region 3 with (first
  | (refine wpList_ldD rfl _ rfl S V rfl HB2.out.1 hV6 ?_)
  | (go_at_call 33; refine HR.out.mono ?_; rintro e w3 ⟨vm, rfl, hb3, hs3, _⟩; have H3 : Box (Below w2.heap.size w2 w3 /\ w3.ownsRow 0 9 1 vm d.n ((List.range d.n).map (fun i => .string (strOfNums (d.pl i))))) := ⟨hb3, by rw [<- HP.out]; unfold Rs at hs3; rw [length_pls] at hs3; exact hs3⟩; obtain ⟨am, cm, rfl⟩ := own_form2 H3.out.2; clear hb3 hs3))
 have HM : Box (w3.heap[S]? = some (.cells V.toArray 36 (0, 0)) /\ Below S w w3 /\ At w3 D P uv ov d) := ⟨(H3.out.1.block S (Array.getElem?_eq_some_iff.1 HB2.out.1).1).trans HB2.out.1, HB2.out.2.trans (H3.out.1.mono (HS.out ▸ HB2.out.2.size)), (H.out.1.below H2.out.2).below H3.out.1⟩
 have HC : Box (∀ x, Below w3.heap.size w3 x -> x.cell? ⟨S, 2, none⟩ = some (.slice aw d.uw.length cw) /\ x.cell? ⟨S, 5, none⟩ = some (.slice ao d.ops.length co)) := ⟨fun x hx => by
  have hb := (hx.block S (Array.getElem?_eq_some_iff.1 HM.out.1).1).trans HM.out.1
  constructor
  ·rw [cell_of_row _ _ _ _ _ _ hb, <- hV]; rfl
  ·rw [cell_of_row _ _ _ _ _ _ hb, <- hV]; rfl⟩
 have HPe : Box (∀ x, Below w3.heap.size w3 x -> Calls Tryd.prog 18 #[.pointer (some ⟨D, 0, none⟩)] x fun e w' => e = .returned (.int .i64 (d.uw.length : Int)) /\ x = w') := ⟨fun x hx => pending_any x D P uv ov d (HM.out.2.2.below hx)⟩
 have HOp : Box (∀ x, Below w3.heap.size w3 x -> Calls Tryd.prog 34 #[.pointer (some ⟨D, 0, none⟩)] x fun e w' => ∃ a7 c7, e = .returned (.slice a7 d.ops.length c7) /\ Below x.heap.size x w') := ⟨fun x hx => (ops_any x D P uv ov d (HM.out.2.2.below hx) HN.out.2.2.1).mono fun e w' ⟨v7, he, ho, hb, _⟩ => by
  obtain ⟨a7, c7, rfl⟩ := own_form2 ho
  exact ⟨a7, c7, he, hb⟩⟩
 have HSS : Box (∀ x, Below w3.heap.size w3 x -> (x.heap[g]? = some (.cells Ls.toArray 63 (0, 0)) /\ (∀ i (h : i < Ls.length), x.ownsRow 0 5 1 Ls[i] 192 ((d.pl i).map (Value.int .u8))) /\ x.ownsRow 0 9 1 (.slice am d.n cm) d.n ((List.range d.n).map (fun i => .string (strOfNums (d.pl i))))) /\ Below S w x) := ⟨fun x hx => by
  have hb2 : Below w2.heap.size w2 x := H3.out.1.trans (hx.mono H3.out.1.size)
  have h5 := H2.out.1.row
  rw [Nat.sub_self, show nils 0 = [] from rfl, List.append_nil] at h5
  exact ⟨⟨(hb2.block g (Array.getElem?_eq_some_iff.1 h5).1).trans h5, fun i hi => own_below (H2.out.1.each i hi).1 hb2, own_below H3.out.2 hx⟩, HM.out.2.1.trans (hx.mono (HS.out ▸ HM.out.2.1.size))⟩⟩
 have HLL : Box (Ls.length = d.n) := ⟨H2.out.1.len⟩
 clear HB2 H2 H3 H HI HR HM
 refine begin_keep (S := fun x => Below w3.heap.size w3 x) (by kernel_rfl) (fun wd hwd => ?_)
 have hS : Below w3.heap.size w3 wd := by rw [hwd]; exact (Below.refl _ _).drew
 clear hwd
 refine take_x (i := 0) (v := ?_) rfl ?_ hS ?_
 rotate_left
 ·rintro w' -; go_simp <;> with_reducible rfl
 try simp only [Act.put, pC, pD, pE, pF, pG]
 refine take_x (i := 1) (v := ?_) rfl ?_ hS ?_
 rotate_left
 ·rintro w' -; go_simp <;> with_reducible rfl
 try simp only [Act.put, pC, pD, pE, pF, pG, pH]
 refine take_x (i := 2) (v := ?_) rfl ?_ hS ?_
 rotate_left
 ·rintro w' -; go_simp <;> with_reducible rfl
 try simp only [Act.put, pC, pD, pE, pF, pG, pH]
 refine take_x (i := 3) (v := ?_) rfl ?_ hS ?_
 rotate_left
 ·rintro w' -; go_simp <;> with_reducible rfl
 try simp only [Act.put, pC, pD, pE, pF, pG, pH]
 refine take_x (i := 4) (v := ?_) rfl ?_ hS ?_
 rotate_left
 ·rintro w' -; go_simp <;> with_reducible rfl
 try simp only [Act.put, pC, pD, pE, pF, pG, pH]
 refine take_x (i := 5) (v := ?_) rfl ?_ hS ?_
 rotate_left
 ·rintro w' -; go_simp <;> with_reducible rfl
 try simp only [Act.put, pC, pD, pE, pF, pG, pH]
 refine take_x (i := 6) (v := ?_) rfl ?_ hS ?_
 rotate_left
 ·rintro w' -; go_simp <;> with_reducible rfl
 try simp only [Act.put, pC, pD, pE, pF, pG, pH]
 refine take_x (i := 8) (v := ?_) rfl ?_ hS ?_
 rotate_left
 ·rintro w' -; go_simp <;> with_reducible rfl
 try simp only [Act.put, pC, pD, pE, pF, pG, pH]
 refine take_x (i := 9) (v := .slice aw d.uw.length cw) rfl (fun w' hLat => exec_load1 33 _ _ rfl Tryd.underlying33 rfl _ rfl _ (HC.out w' hLat).1) hS ?_
 try simp only [Act.put, pC, pD, pE, pF, pG, pH]
 refine take_x (i := 10) (v := ?_) rfl ?_ hS ?_
 rotate_left
 ·rintro w' -; go_simp <;> with_reducible rfl
 try simp only [Act.put, pC, pD, pE, pF, pG, pH]
 refine one_keep (i := 7) (by kernel_rfl) ?_
 refine keep_step rfl (by rfl) ?_
 go_simp
 refine Calls.mono (HPe.out wd hS) ?_
 rintro e x19 ⟨rfl, rfl⟩
 refine ⟨hS, ?_⟩
 try simp only [Act.put, pC, pD, pE, pF, pG, pH]
 refine take_x (i := 11) (v := ?_) rfl ?_ hS ?_
 rotate_left
 ·rintro w' -; go_simp <;> with_reducible rfl
 try simp only [Act.put, pC, pD, pE, pF, pG, pH]
 refine take_x (i := 12) (v := ?_) rfl ?_ hS ?_
 rotate_left
 ·rintro w' -; go_simp <;> with_reducible rfl
 try simp only [Act.put, pC, pD, pE, pF, pG, pH]
 refine take_x (i := 13) (v := ?_) rfl ?_ hS ?_
 rotate_left
 ·rintro w' -; go_simp <;> with_reducible rfl
 try simp only [Act.put, pC, pD, pE, pF, pG, pH]
 refine take_x (i := 14) (v := ?_) rfl ?_ hS ?_
 rotate_left
 ·rintro w' -; go_simp <;> with_reducible rfl
 try simp only [Act.put, pC, pD, pE, pF, pG, pH]
 refine take_x (i := 17) (v := ?_) rfl ?_ hS ?_
 rotate_left
 ·rintro w' -; go_simp <;> with_reducible rfl
 try simp only [Act.put, pC, pD, pE, pF, pG, pH]
 refine take_x (i := 18) (v := .slice ao d.ops.length co) rfl (fun w' hLat => exec_load1 34 _ _ rfl Tryd.underlying34 rfl _ rfl _ (HC.out w' hLat).2) hS ?_
 try simp only [Act.put, pC, pD, pE, pF, pG, pH]
 refine take_x (i := 19) (v := ?_) rfl ?_ hS ?_
 rotate_left
 ·rintro w' -; go_simp <;> with_reducible rfl
 try simp only [Act.put, pC, pD, pE, pF, pG, pH]
 refine one_keep (i := 15) (by kernel_rfl) ?_
 refine keep_step rfl (by rfl) ?_
 go_simp
 refine Calls.mono (HOp.out wd hS) ?_
 rintro e x20 ⟨a7, c7, rfl, hb3⟩
 have hS3 := hS
 have hS : Below w3.heap.size w3 x20 := hS3.trans (hb3.mono hS3.size)
 refine ⟨hS, ?_⟩
 try simp only [Act.put, pC, pD, pE, pF, pG, pH]
 refine take_x (i := 16) (v := ?_) rfl ?_ hS ?_
 rotate_left
 ·rintro w' -; go_simp <;> with_reducible rfl
 try simp only [Act.put, pC, pD, pE, pF, pG, pH]
 refine take_x (i := 20) (v := ?_) rfl ?_ hS ?_
 rotate_left
 ·rintro w' -; go_simp <;> with_reducible rfl
 try simp only [Act.put, pC, pD, pE, pF, pG, pH]
 refine take_x (i := 21) (v := ?_) rfl ?_ hS ?_
 rotate_left
 ·rintro w' -; go_simp <;> with_reducible rfl
 try simp only [Act.put, pC, pD, pE, pF, pG, pH]
 refine wpAnyH_done (by kernel_rfl) ?_ _
 have HE : Box (Below w3.heap.size w3 x20) := ⟨hS⟩
 clear hS hS3 hb3 HC HPe HOp
 generalize x20 = w4 at HE ⊢
 go_wp2
 go_loopw [7] (fun j wr => ∃ q : Nat, q <= d.n /\ j = .int .i64 q /\ Box (∃ m, wr = w4.drewN m)) (fun j _ => d.n - (intOf j).toNat)
 case atStart => exact ⟨0, Nat.zero_le _, rfl, ⟨0, by first | rfl | exact (World.drewN_zero _).symm⟩⟩
 case round =>
  obtain ⟨q, hq, rfl, HI⟩ := hrel
  have HW := (HSS.out wr (by obtain ⟨m, rfl⟩ := HI.out; exact HE.out.trans (below_drewN (Below.refl _ _) m))).1
  have hLL := HLL.out
  by_cases hlt : q < d.n
  ·have hLs : q < Ls.length := by rw [hLL]; exact hlt
   obtain ⟨ak, ck, ek, hby⟩ := own_bytes (HW.2.1 q hLs) (HN.out.2.2.2 q).2 (HN.out.2.2.2 q).1
   have d1 : wr.cell? ⟨g, q, none⟩ = some (.slice ak 192 ck) := by
    rw [cell_of_row _ _ _ _ _ _ HW.1, <- ek]
    simp [hLs]
   obtain ⟨gm, cm', em, hcm⟩ := own_at1 HW.2.2 (by omega)
   simp only [Value.slice.injEq, true_and] at em
   obtain ⟨rfl, rfl⟩ := em
   have d2 : wr.cell? ⟨gm, q, none⟩ = some (.string (strOfNums (d.pl q))) := hcm q _ (by simp [hlt])
   have q1 : ∀ m, (convert 63 9 (.slice ak 192 ck)).run Tryd.prog (wr.drewN m) = .ok (.string (strOfNums (d.pl q))) (wr.drewN m) := fun m => conv_bytes (bytes_drewN' hby m) ck
   generalize strOfNums (d.pl q) = sB at d2 q1
   clear hcm hby ek hLs HW hLL
   go_wp2
   go_quiet (fail)
   go_wp2
   go_roundw
   case rel => exact ⟨q + 1, by omega, by go_num, ⟨drewN_on HI.out nq⟩⟩
   case measure => simp [intOf]; omega
  ·obtain rfl : q = d.n := by omega
   go_wp2
   go_ret
   exact ⟨rfl, by obtain ⟨m, rfl⟩ := HI.out; exact HS.out ▸ ((HSS.out w4 HE.out).2.trans (below_drewN (Below.refl _ _) m))⟩
end Go.Proofs.YthfobaeafapbnaaDoor.Disk
namespace Go.Proofs.YthfobaeafapbnaaDoor
open Go.RowKit Plain
theorem sealOk : SealOk := fun K B p v y hK hKb hB hl hp hv => Seal.rseal_ok K B p v 176 y hK hKb hB hl ⟨hp.1, by omega⟩ (by omega) (by omega) ⟨by omega, by omega⟩ (.inr rfl)
theorem bad_160' (L : List (Int × List Int)) (h : ∀ x ∈ L, x.2.length = 160) (h0 : 0 < L.length) : bad L = false := by
 simp only [bad, Bool.or_eq_false_iff, List.any_eq_false, decide_eq_true_eq]
 refine ⟨?_, fun x hx => by rw [h x hx]; simp⟩
 cases L with
 | nil => simp at h0
 | cons x L => rfl
theorem keep_typed {x y : World} {J : Nat} {fp fp' : Nat -> Prop} {cs0 : Array Value} (hJ : x.heap[J]? = some (.cells cs0 78 (0, 0))) (hf : ∀ (k : Nat) (cs : Array Value) (t : TypeId) (fr : Nat × Nat), x.heap[k]? = some (.cells cs t fr) -> ¬ Disk.Own4 t -> ¬ fp k) (h : Fw (fun k => k = J) x y fp fp') {k : Nat} {cs : Array Value} {t : TypeId} {fr : Nat × Nat} (hk : x.heap[k]? = some (.cells cs t fr)) (ht : ¬ Disk.Own4 t) (hj : t ≠ 78) : y.heap[k]? = x.heap[k]? :=
 h.block (Array.getElem?_eq_some_iff.1 hk).1 (hf k cs t fr hk ht) (fun e => by
  have e2 : k = J := e
  rw [e2, hJ] at hk
  simp only [Option.some.injEq, Obj.cells.injEq] at hk
  exact hj hk.2.1.symm)
def A2 (y : World) (d : Disk.Dk) (k : Nat) (V2 J2 : List Value) : Prop := ∃ r2, Disk.Rv y (.agg V2.toArray) r2 /\ Disk.J k d r2 /\ J2.length = 70 /\ J2.toArray.all (·.oneCell') = true /\ V2.length = 6 /\ V2.toArray.all (·.oneCell') = true
def Nb (y : World) (b : Nat) (Z : Array Value) (t : TypeId) : Prop := y.heap[b]? = some (.cells Z t (0, 0))
theorem Nb.below {y z : World} {b : Nat} {Z : Array Value} {t : TypeId} (h : Nb y b Z t) (hb : Below y.heap.size y z) : Nb z b Z t := (hb.block _ (Array.getElem?_eq_some_iff.1 h).1).trans h
theorem nb_new (y : World) (Z : Array Value) (t : TypeId) : Nb (y.alloc (.cells Z t)) y.heap.size Z t /\ Below y.heap.size y (y.alloc (.cells Z t)) := ⟨al_at rfl, (Below.refl _ _).alloc (Nat.le_refl _) _⟩
end Go.Proofs.YthfobaeafapbnaaDoor
