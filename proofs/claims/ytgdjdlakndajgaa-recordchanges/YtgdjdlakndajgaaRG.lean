/-
  RecordBack: the records of changes, one behind the other, are these changes again, in memory of their own.
-/
import Derived.Test.YtgdjdlakndajgaaRF
namespace Go.Proofs.Ytgdjdlakndajgaa
set_option linter.unusedVariables false
open Go.RowKit Plain

theorem infSlI : (Try.prog.info? 53).map (fun i => (i.zero, i.size, i.bytes)) = some (some (.slice none 0 0), 1, 24) := by kernel_rfl
theorem OImgs.grown {w w' : World} {B B' n : Nat} {e : TypeId} {sz : Nat} {v v' : Value} {xs : List Value} {M : List Im} (h : OImgs w B v' M) (hv : w.ownsRow B' e sz v n xs) (he : e ≠ 5) (he2 : e ≠ 25) (hg : w.grownBy w' v.ownBlock) : OImgs w' B v' M :=
  ⟨own_grown h.row hv he2 hg, fun m hm => (h.byt m hm).grown hv he hg⟩
theorem mem_len (D : List (List (Int × List Int))) (P : List (Int × List Int)) (h : P ∈ D) : P.length ≤ ((D.map ofP).flatten).length := by
  obtain ⟨A, B, rfl⟩ := List.append_of_mem h
  simp only [List.map_append, List.map_cons, List.flatten_append, List.flatten_cons, List.length_append, len_ofP]
  omega
theorem oneR (R : List Rc) : ∀ u ∈ (R.map rcc).flatten, u.oneCell' = true := one_flat rcc one_rcc R
set_option maxRecDepth 20000 in
set_option maxHeartbeats 4000000 in
theorem recordBack_core (a : Option Addr) (cap : Nat) (XX : List Sx) (w : World) (h : Igss w a XX) (hn8 : XX.length ≤ 8) :
    Calls Try.prog 5 #[.slice a XX.length cap] w fun e w' => e = .returned (.bool true) ∧ Below w.heap.size w w' := by
  obtain ⟨i0, hi, hz0, hz1, hz2⟩ := info_parts infRc
  obtain ⟨n, hn⟩ : ∃ n, XX.length = n := ⟨_, rfl⟩
  rw [hn] at hn8 ⊢
  have HM : Box (∀ x, Below w.heap.size w x → Igss x a XX) := ⟨fun x hx => h.below hx⟩
  have HN : Box (XX.length = n) := ⟨hn⟩
  have hg1 : ¬ (8 : Int) < (n : Int) := by omega
  clear h hn
  go_enter Try.func5, Try.ntmps5
  go_upto_region 6 with (go_at_call 8; refine (awake_any _).mono ?_; rintro e x1 ⟨rfl, hb⟩; have H1 : Box (Below w.heap.size w x1) := ⟨hb⟩; clear hb)
  clear hg1
  go_wp2
  go_loopw [4, 5, 6] (fun v u i wr => ∃ (k : Nat) (D : List (List (Int × List Int))) (R : List Rc) (Wn : List Wx), k ≤ n ∧ i = .int .i64 (k : Int) ∧ Box (Bk x1 wr D v u R Wn ∧ D.length = k)) (fun _ _ i _ => n - (intOf i).toNat)
  case atStart => exact ⟨0, [], [], [], Nat.zero_le _, rfl, ⟨⟨World.ownsRow_nil _ _ _ _, fun r hr => by simp at hr, by simp, fun d hd => by simp at hd, World.ownsRow_nil _ _ _ _, fun x hx => by simp at hx, rfl, Below.refl _ _, by simp⟩, rfl⟩⟩
  case round =>
    obtain ⟨k, D, R, Wn, hk, rfl, HK⟩ := hrel
    by_cases hlt : k < n
    · have hlt1 : decide ((k : Int) < (n : Int)) = true := by simp; omega
      have hkX : k < XX.length := by have := HN.out; omega
      have hI := HM.out wr (below_to H1.out HK.out.1.bel)
      obtain ⟨b0, o0, hae, hbl, hr⟩ := hI.tb (by omega)
      subst hae
      obtain ⟨hs1, hs2, hs3⟩ := hI.im XX[k] (List.getElem_mem hkX)
      have hr1 := hr k hkX 0 _ rfl
      obtain ⟨⟨sa, sl, sc, sM⟩, hxx⟩ : ∃ x, XX[k] = x := ⟨_, rfl⟩
      rw [hxx] at hs1 hs2 hs3
      simp only [hxx] at hr1
      simp only at hs1 hs2 hs3
      rw [Nat.mul_one, Nat.add_zero] at hr1
      have HLT : Box (k < n) := ⟨hlt⟩
      have HSM : Box (sM.length = sl ∧ Imgs wr sa sM) := ⟨hs1, hs2⟩
      have hw4 : IntKind.i64.wrap ((k : Int) + 1) = ((k + 1 : Nat) : Int) := by rw [IntKind.wrap_i64]; omega
      unfold maxLen at hs3
      clear hr hs1 hs2 hxx hI hkX hbl
      by_cases h8 : sl ≤ 8
      · have hg2 : ¬ (8 : Int) < (sl : Int) := by omega
        have HIM : Box (Calls Try.prog 9 #[.slice sa sl sc, .bool false] wr fun e w' => ∃ v X, e = .returned v ∧ Ig wr w' false sM sM.length v X) := ⟨by have := images_any sa sc sM false wr HSM.out.2 (by rw [HSM.out.1]; omega); rw [HSM.out.1] at this ⊢; exact this⟩
        go_upto_region 14 with (first
          | (refine atIdx 55 ?_; refine wpList_run rfl _ _ (exec_idxT 55 27 Try.underlying55 1 (by kernel_rfl) _ _ rfl b0 o0 n cap k rfl rfl HLT.out) ?_; rw [Nat.mul_one])
          | (go_at_call 9; refine HIM.out.mono ?_; rintro e x2 ⟨v, X, rfl, hI⟩; obtain ⟨xa, xc, hv, hXi, hXo⟩ := ig_len hI; have H2 : Box (Below wr.heap.size wr x2 ∧ X.length = sl ∧ Imgs x2 xa X ∧ (∀ m ∈ X, m.bl = 160) ∧ X.map pl = imgP false (sM.map pl) ∧ OImgs x2 wr.heap.size v X) := ⟨hI.bel, by rw [hI.len]; exact HSM.out.1, hXi, ig_bl hI, by have := hI.pls; rwa [List.take_of_length_le (by rw [len_imgP]; simp)] at this, hI.im⟩; rw [HSM.out.1] at hv; subst hv; clear hI hXi hXo))
        clear HIM hg2
        have HK2 : Box (Bk x1 x2 D u4 u5 R Wn) := ⟨HK.out.1.to H2.out.1⟩
        by_cases h0 : 0 < sl
        · have HOF : Box (Calls Try.prog 15 #[.slice xa sl xc] x2 fun e w' => ∃ g R', e = .returned (.tuple #[.slice (some ⟨g, 0, none⟩) sl sl, .int .i64 0]) ∧ ORecs w' x2.heap.size (.slice (some ⟨g, 0, none⟩) sl sl) R' ∧ R'.length = sl ∧ R'.map rpl = ofP (X.map pl) ∧ (∀ r ∈ R', r.m.bl = 160) ∧ Below x2.heap.size x2 w') := ⟨by
            have e := H2.out.2.1
            have := of_ok xa xc X x2 H2.out.2.2.1 (by omega) (by omega) H2.out.2.2.2.1
            rw [e] at this
            refine this.mono fun e w' ⟨g, R', h1, h2, h3, h4, h5⟩ => ⟨g, R', h1, h2, h3, h4, fun r hr => ?_, h5⟩
            have ho := (h2.byt r hr).own.1
            have hmem : rpl r ∈ ofP (X.map pl) := by rw [← h4]; exact List.mem_map_of_mem hr
            obtain ⟨i, hi, hre⟩ := List.getElem_of_mem hmem
            have hiX : i < X.length := by rw [len_ofP, List.length_map] at hi; exact hi
            have e3 : (rpl r).1 = pl X[i] := by rw [← hre]; simp [ofP]
            have hXb := (H2.out.2.2.1.byt X[i] (List.getElem_mem hiX)).1.1
            have e4 : r.m.bs = X[i].bs := congrArg Prod.snd e3
            rw [List.length_map, e4, hXb, H2.out.2.2.2.1 _ (List.getElem_mem hiX)] at ho
            omega⟩
          go_upto_region 17 with (go_at_call 15; refine HOF.out.mono ?_; rintro e x3 ⟨g, R', rfl, h2, h3, h4, h5, h6⟩; have H3 : Box (ORecs x3 x2.heap.size (.slice (some ⟨g, 0, none⟩) sl sl) R' ∧ R'.length = sl ∧ R'.map rpl = ofP (X.map pl) ∧ (∀ r ∈ R', r.m.bl = 160) ∧ Below x2.heap.size x2 x3) := ⟨h2, h3, h4, h5, h6⟩; clear h2 h3 h4 h5 h6)
          have HK3 : Box (Bk x1 x3 D u4 u5 R Wn ∧ x1.heap.size ≤ x3.heap.size ∧ x1.heap.size ≤ x2.heap.size) := ⟨HK2.out.to H3.out.2.2.2.2, (HK2.out.to H3.out.2.2.2.2).bel.size, HK2.out.bel.size⟩
          have HCE : Box ((R'.map rcc).flatten.length = sl * 3 ∧ ∀ j u, (R'.map rcc).flatten[j]? = some u → x3.cell? ((⟨g, 0, none⟩ : Addr).add j) = some u) := ⟨by rw [flat_len rcc 3 (fun _ => rfl), H3.out.2.1], by have := H3.out.1.row; rw [H3.out.2.1] at this; exact this.cells (g := g) rfl⟩
          have HSZ : Box (R.length + sl ≤ maxLen ∧ (R.length + sl) * 40 ≤ 140737488355328) := ⟨by have := HK.out.1.sz; have := HK.out.2; unfold maxLen; omega, by have := HK.out.1.sz; have := HK.out.2; omega⟩
          have HDN : Box (X.map pl ≠ [] ∧ (X.map pl).length ≤ 8 ∧ (X.map pl).length = sl) := ⟨fun e => by have := congrArg List.length e; simp at this; have := H2.out.2.1; simp_all, by rw [List.length_map, H2.out.2.1]; exact h8, by rw [List.length_map, H2.out.2.1]⟩
          go_upto_region 18 with (at_builtin; refine wpList_append_own _ rfl _ _ 47 rfl x1.heap.size 30 i0 _ 3 40 Try.underlying47 hi hz0 hz1 hz2 rfl (by decide) u4 R.length (R.map rcc).flatten rfl HK3.out.1.all ⟨g, 0, none⟩ sl sl (R'.map rcc).flatten rfl HCE.out.1 HCE.out.2 (oneR R') HSZ.out.1 HSZ.out.2 HK3.out.2.1 ?_; intro v4 x4 hown hgr _; have H4 : Box (Bh x1 x4 D (X.map pl) v4 u5 (R ++ R') Wn ∧ OImgs x4 wr.heap.size (.slice xa sl xc) X) := ⟨HK3.out.1.app x2.heap.size HK3.out.2.2 H3.out.1 H3.out.2.2.2.1 H3.out.2.2.1 HDN.out.1 HDN.out.2.1 (by rw [H3.out.2.1]; exact hown) hgr, (H2.out.2.2.2.2.2.to H3.out.2.2.2.2).grown HK3.out.1.all (by decide) (by decide) hgr⟩; clear hown hgr)
          have HMO : Box (Calls Try.prog 17 #[.slice xa sl xc] x4 fun e w' => ∃ v, e = .returned v ∧ MoK x4 w' X sl v) := ⟨by have e := H2.out.2.1; have := modelOf_any xa xc X x4 (by have h9 := H4.out.2; rw [← e] at h9; exact h9.imgs) (by omega); rw [e] at this; exact this⟩
          have HWL : Box (Wn.length ≤ 1000000) := ⟨by have := congrArg List.length HK.out.1.wpl; rw [List.length_map] at this; have := HK.out.2; omega⟩
          go_wp2_with (first
            | (go_at_call 17; refine HMO.out.mono ?_; rintro e x5 ⟨v5, rfl, hM⟩; obtain ⟨ma, mc, rfl⟩ := own_form2 hM.row; have H5 : Box (Bh x1 x5 D (X.map pl) v4 u5 (R ++ R') Wn ∧ x5.ownsRow x1.heap.size 37 2 (.slice ma sl mc) sl ((X.map pl).map ic).flatten ∧ x1.heap.size ≤ x5.heap.size) := ⟨H4.out.1.to hM.bel, own_low2 (by have := hM.row; rwa [List.take_of_length_le (by rw [HDN.out.2.2]; exact Nat.le_refl _)] at this) H4.out.1.bel.size, (H4.out.1.to hM.bel).bel.size⟩; clear hM)
            | (at_builtin; refine wpList_appR 58 53 Try.underlying58 1 24 _ infSlI rfl (by decide) rfl (.tmp 50) (.tmp 53) rfl x1.heap.size Wn.length u5 (Wn.map wsl).flatten [.slice ma sl mc] x5 rfl rfl rfl H5.out.1.want rfl (by simp [Value.oneCell']) HWL.out (by decide) (by decide) H5.out.2.2 ?_; intro v6 x6 hown hgr; have H6 : Box (Bk x1 x6 (D ++ [X.map pl]) v4 v6 (R ++ R') (Wn ++ [⟨ma, sl, mc, X.map pl⟩])) := ⟨H5.out.1.app ma sl mc HDN.out.2.2 H5.out.2.1 hown hgr⟩; clear hown hgr))
          go_roundw
          case rel => exact ⟨k + 1, _, _, _, HLT.out, by go_num, ⟨H6.out, by simp [HK.out.2]⟩⟩
          case measure => simp [intOf]; have := HLT.out; omega
        · have HZ : Box (sl = 0) := ⟨by omega⟩
          have hz : ((sl : Int) == 0) = true := by simp; omega
          go_wp2_with (go_at_call 15; refine (of_zero xa sl xc HZ x2).mono ?_; rintro e x3 ⟨rfl, rfl⟩)
          go_ret
          exact ⟨rfl, below_to H1.out HK2.out.bel⟩
      · have hg2 : (8 : Int) < (sl : Int) := by omega
        go_wp2_with (refine atIdx 55 ?_; refine wpList_run rfl _ _ (exec_idxT 55 27 Try.underlying55 1 (by kernel_rfl) _ _ rfl b0 o0 n cap k rfl rfl HLT.out) ?_; rw [Nat.mul_one])
        go_ret
        exact ⟨rfl, below_to H1.out HK.out.1.bel⟩
    · obtain rfl : k = n := by omega
      have hlt1 : decide ((k : Int) < (k : Int)) = false := by simp
      obtain ⟨ra, rc, rfl⟩ := own_form2 HK.out.1.all
      obtain ⟨ua, uc, rfl⟩ := own_form2 HK.out.1.want
      have hRl : R.length ≤ 64 := by have := HK.out.1.sz; have := HK.out.2; omega
      have hWl : Wn.length = k := by have := congrArg List.length HK.out.1.wpl; rw [List.length_map] at this; have := HK.out.2; omega
      have HRE : Box (Recs wr ra R) := ⟨⟨own_tb (fun _ => rfl) HK.out.1.all rfl, fun r hr => ⟨(HK.out.1.byt r hr).1.byi.1, (HK.out.1.byt r hr).1.num, by rw [(HK.out.1.byt r hr).2]; decide⟩⟩⟩
      have HCO : Box (Calls Try.prog 18 #[.slice ra R.length rc] wr fun e w' => ∃ v C, e = .returned (.tuple #[v, .int .i64 0]) ∧ Chs w' wr.heap.size v C ∧ C.map (fun c => c.M.map pl) = D ∧ Below wr.heap.size wr w') := ⟨by
        have := changes_ok ra rc R wr HRE.out (by omega) (fun h3 => by
          have h4 := last_of D HK.out.1.ne (by rw [← HK.out.1.rpls, List.length_map]; exact h3)
          simp only [← HK.out.1.rpls, List.length_map, List.getElem_map] at h4
          exact h4)
        rw [HK.out.1.rpls, chS_of D HK.out.1.ne] at this
        exact this⟩
      have HD : Box (D.length = k ∧ Wn.length = k ∧ Wn.map (·.P) = D) := ⟨HK.out.2, hWl, HK.out.1.wpl⟩
      rw [hWl]
      obtain ⟨rn, hrn⟩ : ∃ rn, R.length = rn := ⟨_, rfl⟩
      have HRN : Box (R.length = rn) := ⟨hrn⟩
      rw [hrn] at hRl HCO ⊢
      clear hWl hrn
      go_upto_region 20 with (go_at_call 18; refine HCO.out.mono ?_; rintro e x6 ⟨cv, C, rfl, hC1, hC2, hC3⟩; obtain ⟨cva, cvc, rfl⟩ := own_form2 hC1.row; have H6 : Box (Chs x6 wr.heap.size (.slice cva C.length cvc) C ∧ C.map (fun c => c.M.map pl) = D ∧ Below wr.heap.size wr x6 ∧ C.length = k) := ⟨hC1, hC2, hC3, by have := congrArg List.length hC2; rw [List.length_map] at this; rw [this]; exact HD.out.1⟩; clear hC1 hC2 hC3)
      obtain ⟨cl, hcl⟩ : ∃ cl, C.length = cl := ⟨_, rfl⟩
      have HCL : Box (C.length = cl) := ⟨hcl⟩
      obtain rfl : cl = k := by rw [← hcl]; exact H6.out.2.2.2
      rw [hcl] at H6 ⊢
      clear hcl
      have HB6 : Box (Bk x1 x6 D (.slice ra R.length rc) (.slice ua Wn.length uc) R Wn) := ⟨HK.out.1.to H6.out.2.2.1⟩
      obtain ⟨wb, hwb⟩ : ∃ wb, wb = wr := ⟨_, rfl⟩
      have HWB : Box (∀ r ∈ R, ∃ g c cs z, r.m.ba = some ⟨g, 0, none⟩ ∧ x6.heap[g]? = some (.cells cs 5 (0, 0)) ∧ x1.heap.size ≤ g ∧ g < wb.heap.size ∧ cs[0]? = some (.int .u8 z) ∧ r.m.bl = 160 ∧ c = r.m.bc) := ⟨fun r hr => by
        subst hwb
        have ho := (HK.out.1.byt r hr).1
        have hbl := (HK.out.1.byt r hr).2
        obtain ⟨g, cp, cur, hv, hg, hh, hcs, _, _, hcell⟩ := own_block ho.own (by rw [hbl]; omega)
        simp only [Value.slice.injEq, true_and] at hv
        exact ⟨g, cp, cur, _, hv.1, (H6.out.2.2.1.block g (Array.getElem?_eq_some_iff.1 hh).1).trans hh, hg, (Array.getElem?_eq_some_iff.1 hh).1, hcell 0 (by rw [hbl]; omega), hbl, hv.2.symm⟩⟩
      have H6b : Box (Chs x6 wb.heap.size (.slice cva cl cvc) C ∧ C.map (fun c => c.M.map pl) = D) := ⟨by rw [hwb]; exact H6.out.1, H6.out.2.1⟩
      clear hwb
      go_upto_region 22 with fail
      go_wp2
      go_loopw [12] (fun i wr => ∃ j : Nat, j ≤ rn ∧ i = .int .i64 (j : Int) ∧ Box (Mt x1.heap.size wb.heap.size x6 wr)) (fun i _ => rn - (intOf i).toNat)
      case atStart => exact ⟨0, Nat.zero_le _, rfl, ⟨Mt.refl _ _ _⟩⟩
      case round =>
        obtain ⟨j, hj, rfl, HQ⟩ := hrel
        by_cases hjl : j < rn
        · have hj1 : decide ((j : Int) < (rn : Int)) = true := by simp; omega
          have hjR : j < R.length := by have := HRN.out; omega
          obtain ⟨g, c, cs, z, hba, hh, hlo, hhi, hz, hbl, hc⟩ := HWB.out R[j] (List.getElem_mem hjR)
          obtain ⟨cs', hh', hsz, hcz⟩ := HQ.out.byt g cs hh
          obtain ⟨z', hz'⟩ := hcz 0 z hz
          have hal := HQ.out.own HB6.out.all (.inl (by decide))
          obtain ⟨b1, o1, e1, hb1, hr1⟩ := (own_tb (fun _ => rfl) hal rfl : Tb wr ra 3 rcc R) (by omega)
          first | subst e1 | skip
          have hrj := hr1 j hjR
          have hcj : wr.cell? ⟨b1, o1 + j * 3 + 1, none⟩ = some (.slice (some ⟨g, 0, none⟩) 160 R[j].m.bc) := by
            have := hrj 1 (.slice R[j].m.ba R[j].m.bl R[j].m.bc) rfl
            rwa [hba, hbl] at this
          have hcg : wr.cell? ⟨g, 0, none⟩ = some (.int .u8 z') := by rw [cell_of_row _ _ _ _ _ _ hh']; exact hz'
          have hfg : wr.frozen? ⟨g, 0, none⟩ = false := frozen_of_row wr g 0 _ 5 hh'
          obtain ⟨bc9, hbc9⟩ : ∃ c, R[j].m.bc = c := ⟨_, rfl⟩
          rw [hbc9] at hcj
          have HST : Box (Mt x1.heap.size wb.heap.size x6 (wr.setCell ⟨g, 0, none⟩ (.int .u8 (bits .xor .u8 z' 255)))) := ⟨HQ.out.set g 0 cs hh hlo hhi _⟩
          have HJL : Box (j < rn) := ⟨hjl⟩
          have hw6 : IntKind.i64.wrap ((j : Int) + 1) = ((j + 1 : Nat) : Int) := by rw [IntKind.wrap_i64]; omega
          clear hr1 hrj hh hh' hsz hcz hz hz' hal hba hbl hbc9 hc
          go_wp2_with (refine atIdx 47 ?_; refine wpList_run rfl _ _ (exec_idxT 47 30 Try.underlying47 3 infoRc _ _ rfl b1 o1 rn rc j rfl rfl HJL.out) ?_)
          go_roundw
          case rel => exact ⟨j + 1, HJL.out, by go_num, HST⟩
          case measure => simp [intOf]; have := HJL.out; omega
        · obtain rfl : j = rn := by omega
          have hj1 : decide ((j : Int) < (j : Int)) = false := by simp
          have HE : Box (Chs wr wb.heap.size (.slice cva cl cvc) C ∧ wr.ownsRow x1.heap.size 53 1 (.slice ua cl uc) cl (Wn.map wsl).flatten ∧ (∀ x ∈ Wn, x.P.length = x.l ∧ wr.ownsRow x1.heap.size 37 2 (.slice x.a x.l x.c) x.l (x.P.map ic).flatten) ∧ Below w.heap.size w wr) := ⟨H6b.out.1.mt HQ.out, by have := HQ.out.own HB6.out.want (.inl (by decide)); rwa [HD.out.2.1] at this, fun x hx => ⟨(HB6.out.wim x hx).1, HQ.out.own (HB6.out.wim x hx).2 (.inl (by decide))⟩, below_to H1.out (HQ.out.below HB6.out.bel)⟩
          obtain ⟨wz, hwz⟩ : ∃ wz, wz = wr := ⟨_, rfl⟩
          have HE2 : Box (Chs wz wb.heap.size (.slice cva cl cvc) C ∧ wz.ownsRow x1.heap.size 53 1 (.slice ua cl uc) cl (Wn.map wsl).flatten ∧ (∀ x ∈ Wn, x.P.length = x.l ∧ wz.ownsRow x1.heap.size 37 2 (.slice x.a x.l x.c) x.l (x.P.map ic).flatten) ∧ Below w.heap.size w wz ∧ Below wz.heap.size wz wr) := ⟨by rw [hwz]; exact HE.out.1, by rw [hwz]; exact HE.out.2.1, by rw [hwz]; exact HE.out.2.2.1, by rw [hwz]; exact HE.out.2.2.2, by rw [hwz]; exact Below.refl _ _⟩
          clear HE hwz HQ
          go_wp2
          go_loopw [13] (fun i wr => ∃ j : Nat, j ≤ cl ∧ i = .int .i64 (j : Int) ∧ Box (Below wz.heap.size wz wr)) (fun i _ => cl - (intOf i).toNat)
          case atStart => exact ⟨0, Nat.zero_le _, rfl, ⟨HE2.out.2.2.2.2⟩⟩
          case round =>
            obtain ⟨ii, hii, rfl, HW⟩ := hrel
            by_cases hi3 : ii < cl
            · have hi1 : decide ((ii : Int) < (cl : Int)) = true := by simp; omega
              have hiC : ii < C.length := by have := HCL.out; omega
              have hiW : ii < Wn.length := by have := HD.out.2.1; omega
              obtain ⟨gc, oc, hce, hcb, hcr⟩ := (own_tb (fun _ => rfl) (by have := HE2.out.1.row; rw [HCL.out] at this; exact this) HCL.out : Tb wz cva 1 slc C) (by omega)
              first | subst hce | skip
              obtain ⟨gw, ow, hwe, hwb2, hwr⟩ := (own_tb (fun _ => rfl) HE2.out.2.1 HD.out.2.1 : Tb wz ua 1 wsl Wn) (by omega)
              first | subst hwe | skip
              have hcr1 := hcr ii hiC 0 _ rfl
              have hwr1 := hwr ii hiW 0 _ rfl
              have hcI := HE2.out.1.imgs C[ii] (List.getElem_mem hiC)
              have hcl := (HE2.out.1.im C[ii] (List.getElem_mem hiC)).1
              have hwI := HE2.out.2.2.1 Wn[ii] (List.getElem_mem hiW)
              have hEQ : C[ii].M.map pl = Wn[ii].P := by
                have e1 := H6b.out.2
                have e2 := HD.out.2.2
                rw [← e2] at e1
                have e3 : (C.map (fun c => c.M.map pl))[ii]? = (Wn.map (·.P))[ii]? := by rw [e1]
                rw [List.getElem?_eq_getElem (by simpa using hiC), List.getElem?_eq_getElem (by simpa using hiW)] at e3
                simpa using e3
              obtain ⟨⟨ca, cll, ccc, cM⟩, hCC⟩ : ∃ c, C[ii] = c := ⟨_, rfl⟩
              obtain ⟨⟨wa, wl, wc, P⟩, hWW⟩ : ∃ c, Wn[ii] = c := ⟨_, rfl⟩
              simp only [hCC] at hcr1 hcI hcl hEQ
              simp only [hWW] at hwr1 hwI hEQ
              rw [Nat.mul_one, Nat.add_zero] at hcr1 hwr1
              have hPl : P.length = cll := by rw [← hEQ, List.length_map, hcl]
              have hwl : wl = cll := by rw [← hwI.1]; exact hPl
              subst hwl
              have HF : Box (∀ x, Below wr.heap.size wr x → x.cell? ⟨gc, oc + ii, none⟩ = some (.slice ca wl ccc) ∧ x.cell? ⟨gw, ow + ii, none⟩ = some (.slice wa wl wc) ∧ Imgs x ca cM ∧ Tb x wa 2 ic P) := ⟨fun x hx => by
                have h6 := below_to HW.out hx
                exact ⟨(h6.cell hcb).trans hcr1, (h6.cell hwb2).trans hwr1, hcI.below h6, (own_tb (f := ic) (fun _ => rfl) hwI.2 hwI.1).below h6⟩⟩
              have HLN : Box (cM.length = wl ∧ cM.map pl = P ∧ P.length = wl ∧ wl ≤ 1000) := ⟨hcl, hEQ, hPl, by
                have h1 : P ∈ D := by rw [← HD.out.2.2]; exact List.mem_map.2 ⟨Wn[ii], List.getElem_mem hiW, by rw [hWW]⟩
                have h2 := mem_len D P h1
                rw [← HB6.out.rpls, List.length_map, HRN.out] at h2
                omega⟩
              have HII : Box (ii < cl) := ⟨hi3⟩
              have HMO : Box (∀ x, Below wr.heap.size wr x → Calls Try.prog 17 #[.slice ca wl ccc] x fun e w' => ∃ a' c', e = .returned (.slice a' wl c') ∧ Tb w' a' 2 ic P ∧ Below x.heap.size x w') := ⟨fun x hx => by
                have := modelOf_any ca ccc cM x (HF.out x hx).2.2.1 (by rw [HLN.out.1]; exact HLN.out.2.2.2)
                rw [HLN.out.1] at this
                refine this.mono fun e w' ⟨v, h1, h2⟩ => ?_
                have hrow := h2.row
                rw [HLN.out.2.1, List.take_of_length_le (by rw [HLN.out.2.2.1]; exact Nat.le_refl _)] at hrow
                obtain ⟨a', c', rfl⟩ := own_form2 hrow
                exact ⟨a', c', h1, own_tb (fun _ => rfl) hrow HLN.out.2.2.1, h2.bel⟩⟩
              have hw8 : IntKind.i64.wrap ((ii : Int) + 1) = ((ii + 1 : Nat) : Int) := by rw [IntKind.wrap_i64]; omega
              clear hcr hwr hcr1 hwr1 hcI hcl hwI hEQ hCC hWW hPl hiC hiW
              go_upto_region 29 with fail
              refine Seq.begin_any (by kernel_rfl) (fun wd hd => ?_)
              have hbd : Below wr.heap.size wr wd := hd.mono (Nat.le_refl _)
              refine Seq.take_lat (i := 0) (v := ?_) rfl (by kernel_rfl) (by kernel_rfl) (by kernel_rfl) (fun _ _ _ h => h) (by rfl) ?_ ?_
              rotate_left
              · intro w' hLat; change Below _ _ _ at hLat; go_simp <;> with_reducible rfl
              try simp only [Act.put, List.setIfInBounds_toArray, List.set_cons_zero, List.set_cons_succ, List.getElem_toArray, List.getElem_cons_zero]
              refine Seq.take_lat (i := 1) (v := ?_) rfl (by kernel_rfl) (by kernel_rfl) (by kernel_rfl) (fun _ _ _ h => h) (by rfl) ?_ ?_
              rotate_left
              · intro w' hLat; change Below _ _ _ at hLat; go_simp <;> with_reducible rfl
              try simp only [Act.put, List.setIfInBounds_toArray, List.set_cons_zero, List.set_cons_succ, List.getElem_toArray, List.getElem_cons_zero, List.getElem_cons_succ]
              refine Seq.take_lat (i := 2) (v := .pointer (some ⟨gc, oc + ii * 1, none⟩)) rfl (by kernel_rfl) (by kernel_rfl) (by kernel_rfl) (fun _ _ _ h => h) (by rfl) (fun w' hLat => exec_idxT 55 27 Try.underlying55 1 (by kernel_rfl) _ _ rfl gc oc cl cvc ii rfl rfl HII.out) ?_
              try simp only [Act.put, List.setIfInBounds_toArray, List.set_cons_zero, List.set_cons_succ, List.getElem_toArray, List.getElem_cons_zero, List.getElem_cons_succ]
              refine Seq.take_lat (i := 3) (v := .slice ca wl ccc) rfl (by kernel_rfl) (by kernel_rfl) (by kernel_rfl) (fun _ _ _ h => h) (by rfl) (fun w' hLat => exec_load1 27 _ _ rfl Try.underlying27 rfl _ rfl _ (by rw [Nat.mul_one]; exact (HF.out w' (below_to hbd hLat)).1)) ?_
              try simp only [Act.put, List.setIfInBounds_toArray, List.set_cons_zero, List.set_cons_succ, List.getElem_toArray, List.getElem_cons_zero, List.getElem_cons_succ]
              refine Seq.take_lat (i := 5) (v := ?_) rfl (by kernel_rfl) (by kernel_rfl) (by kernel_rfl) (fun _ _ _ h => h) (by rfl) ?_ ?_
              rotate_left
              · intro w' hLat; change Below _ _ _ at hLat; go_simp <;> with_reducible rfl
              try simp only [Act.put, List.setIfInBounds_toArray, List.set_cons_zero, List.set_cons_succ, List.getElem_toArray, List.getElem_cons_zero, List.getElem_cons_succ]
              refine Seq.take_lat (i := 6) (v := ?_) rfl (by kernel_rfl) (by kernel_rfl) (by kernel_rfl) (fun _ _ _ h => h) (by rfl) ?_ ?_
              rotate_left
              · intro w' hLat; change Below _ _ _ at hLat; go_simp <;> with_reducible rfl
              try simp only [Act.put, List.setIfInBounds_toArray, List.set_cons_zero, List.set_cons_succ, List.getElem_toArray, List.getElem_cons_zero, List.getElem_cons_succ]
              refine Seq.take_lat (i := 7) (v := .pointer (some ⟨gw, ow + ii * 1, none⟩)) rfl (by kernel_rfl) (by kernel_rfl) (by kernel_rfl) (fun _ _ _ h => h) (by rfl) (fun w' hLat => exec_idxT 58 53 Try.underlying58 1 (by kernel_rfl) _ _ rfl gw ow cl uc ii rfl rfl HII.out) ?_
              try simp only [Act.put, List.setIfInBounds_toArray, List.set_cons_zero, List.set_cons_succ, List.getElem_toArray, List.getElem_cons_zero, List.getElem_cons_succ]
              refine Seq.take_lat (i := 8) (v := .slice wa wl wc) rfl (by kernel_rfl) (by kernel_rfl) (by kernel_rfl) (fun _ _ _ h => h) (by rfl) (fun w' hLat => exec_load1 53 _ _ rfl Try.underlying53 rfl _ rfl _ (by rw [Nat.mul_one]; exact (HF.out w' (below_to hbd hLat)).2.1)) ?_
              try simp only [Act.put, List.setIfInBounds_toArray, List.set_cons_zero, List.set_cons_succ, List.getElem_toArray, List.getElem_cons_zero, List.getElem_cons_succ]
              refine Seq.only_lat (i := 4) rfl (by kernel_rfl) (fun KK hK => ?_)
              rw [if_pos (by rfl)]
              go_simp
              refine Calls.mono (HMO.out wd hbd) ?_
              rintro e x8 ⟨ma8, mc8, rfl, hT8, hb8⟩
              refine hK.out _ _ hb8 ?_
              clear hK KK
              try simp only [Act.put, List.setIfInBounds_toArray, List.set_cons_zero, List.set_cons_succ, List.getElem_toArray, List.getElem_cons_zero, List.getElem_cons_succ]
              refine Seq.only_lat (i := 9) rfl (by kernel_rfl) (fun KK hK => ?_)
              rw [if_pos (by rfl)]
              go_simp
              refine Calls.mono (by have := same_any ma8 wa mc8 wc P x8 hT8 (HF.out x8 (below_to hbd hb8)).2.2.2 (by rw [HLN.out.2.2.1]; exact HLN.out.2.2.2); rw [HLN.out.2.2.1] at this; exact this) ?_
              rintro e x9 ⟨rfl, hb9⟩
              refine hK.out _ _ hb9 ?_
              clear hK KK
              try simp only [Act.put, List.setIfInBounds_toArray, List.set_cons_zero, List.set_cons_succ, List.getElem_toArray, List.getElem_cons_zero, List.getElem_cons_succ]
              refine Seq.take_lat (i := 10) (v := ?_) rfl (by kernel_rfl) (by kernel_rfl) (by kernel_rfl) (fun _ _ _ h => h) (by rfl) ?_ ?_
              rotate_left
              · intro w' hLat; change Below _ _ _ at hLat; go_simp <;> with_reducible rfl
              try simp only [Act.put, List.setIfInBounds_toArray, List.set_cons_zero, List.set_cons_succ, List.getElem_toArray, List.getElem_cons_zero, List.getElem_cons_succ]
              refine wpAnyH_done (by kernel_rfl) ?_ _
              have HX9 : Box (Below wz.heap.size wz x9) := ⟨below_to HW.out (below_to hbd (below_to hb8 hb9))⟩
              clear hd hbd hb8 hb9 hT8
              go_wp2
              go_roundw
              case rel => exact ⟨ii + 1, HII.out, by go_num, HX9⟩
              case measure => simp [intOf]; have := HII.out; omega
            · obtain rfl : ii = cl := by omega
              have hi1 : decide ((ii : Int) < (ii : Int)) = false := by simp
              go_wp2
              go_ret
              exact ⟨rfl, below_to HE2.out.2.2.2.1 HW.out⟩
set_option maxRecDepth 20000 in
set_option maxHeartbeats 1000000 in
theorem recordBack_far (a : Option Addr) (n cap : Nat) (w : World) (hf : ¬ n ≤ 8) :
    Calls Try.prog 5 #[.slice a n cap] w fun e w' => e = .returned (.bool true) ∧ Below w.heap.size w w' := by
  have hg1 : (8 : Int) < (n : Int) := by omega
  go_enter Try.func5, Try.ntmps5
  go_wp2_with (go_at_call 8; refine (awake_any _).mono ?_; rintro e x1 ⟨rfl, hb⟩; have H1 : Box (Below w.heap.size w x1) := ⟨hb⟩; clear hb)
  go_ret
  exact ⟨rfl, H1.out⟩
theorem recordBack_walk (a : Option Addr) (cap : Nat) (XX : List Sx) (W : World) (h : Igss W a XX) (hm : XX.length ≤ maxLen) :
    Calls Try.prog 5 #[.slice a XX.length cap] W fun e w' => e = .returned (.bool true) ∧ Below W.heap.size W w' := by
  by_cases h1 : XX.length ≤ 8
  · exact recordBack_core a cap XX W h h1
  · exact recordBack_far a XX.length cap W h1
end Go.Proofs.Ytgdjdlakndajgaa
