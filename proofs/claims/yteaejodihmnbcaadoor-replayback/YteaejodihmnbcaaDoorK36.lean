/-
  What Latest of package replay answers: the walk. And what follows it.
-/
import Derived.Test.YteaejodihmnbcaaDoorK35
import Derived.Test.YteaejodihmnbcaaDoorK34
namespace Go.Proofs.YteaejodihmnbcaaDoor
set_option maxRecDepth 100000
set_option linter.unusedVariables false
open Go.RowKit Plain
attribute [local go_sem] Oper.semAt_some
theorem infoSlz : (Tryd.prog.info? 24).map (·.size) = some 1 := by kernel_rfl
set_option maxHeartbeats 8000000 in
theorem latest_v (a : Option Addr) (cap : Nat) (C : List Sx) (w : World) (h : Igss w a C) (hl : C.length ≤ 1000) (hc : ∀ c ∈ C, c.l ≤ 1000) (hbl : ∀ m ∈ allM C, m.bl < 1000000) :
    Calls Tryd.prog 10 #[.slice a C.length cap] w fun e w' => ∃ v Y, e = .returned v ∧ OImgs w' w.heap.size v Y ∧ Y.map pl = latP ((allM C).map pl) ∧ Below w.heap.size w w' := by
  obtain ⟨i0, hi, hz0, hz1, hz2⟩ := info_parts infIm
  obtain ⟨n, hn⟩ : ∃ n, C.length = n := ⟨_, rfl⟩
  rw [hn] at hl ⊢
  obtain ⟨g, hg⟩ : ∃ g, w.heap.size = g := ⟨_, rfl⟩
  obtain ⟨w1, hw1⟩ : ∃ w1, w.alloc (.map #[] 0) = w1 := ⟨_, rfl⟩
  have hb1 : Below w.heap.size w w1 := by rw [← hw1]; exact (Below.refl _ _).alloc (Nat.le_refl _) _
  have H0 : Box (LtK w w1 g (allM (C.take 0))) := ⟨⟨by rw [← hw1, ← hg]; exact mp_new w, hb1⟩⟩
  have HI : Box (∀ wr, Below w.heap.size w wr → Igss wr a C) := ⟨fun wr hb => h.below hb⟩
  have HN : Box (C.length = n ∧ n ≤ 1000 ∧ ∀ c ∈ C, c.l ≤ 1000) := ⟨hn, hl, hc⟩
  have HL : Box (∀ k (hk : k < C.length), allM (C.take (k + 1)) = allM (C.take k) ++ C[k].M) := ⟨fun k hk => allM_take C k hk⟩
  have HGG : Box (w.heap.size = g) := ⟨hg⟩
  have HLM : Box ((allM C).length ≤ 1000000) := ⟨by
    have key : ∀ L : List Sx, (∀ c ∈ L, c.M.length ≤ 1000) → (allM L).length ≤ 1000 * L.length := by
      intro L
      induction L with
      | nil => intro _; simp [allM]
      | cons c L ih =>
        intro hh
        have h1 := ih (fun c hc => hh c (by simp [hc]))
        have h2 := hh c (by simp)
        have e : allM (c :: L) = c.M ++ allM L := by simp [allM]
        rw [e, List.length_append, List.length_cons]
        omega
    have := key C (fun c hcm => by rw [(h.im c hcm).1]; exact hc c hcm)
    omega⟩
  have HBY : Box (∀ m ∈ allM C, Bytes w m.ba m.bl m.bs ∧ N64 m.blk ∧ m.bl < 1000000) := ⟨fun m hm => by
    obtain ⟨l, hl1, hl2⟩ := List.mem_flatten.1 hm
    obtain ⟨c, hcm, rfl⟩ := List.mem_map.1 hl1
    have := (h.im c hcm).2.1.byt m hl2
    exact ⟨this.1, this.2.1, hbl m hm⟩⟩
  clear h hl hc hn hg hb1 hbl
  go_enter Tryd.func10, Tryd.ntmps10
  have hmm := @run_makeMap Tryd.prog
  go_upto_region 2 with fail
  (try simp only [HGG.out])
  clear hw1 hmm
  go_wp2
  go_loopw [14] (fun i wr => ∃ k : Nat, k ≤ n ∧ i = .int .i64 (k : Int) ∧ Box (LtK w wr g (allM (C.take k)))) (fun i _ => n - (intOf i).toNat)
  case atStart => exact ⟨0, Nat.zero_le _, rfl, H0⟩
  case round =>
    clear H0
    obtain ⟨k, hk, rfl, HG⟩ := hrel
    obtain ⟨wo, rfl⟩ : ∃ wo, wo = wr := ⟨_, rfl⟩
    by_cases hlt : k < n
    · have hlt1 : decide ((k : Int) < (n : Int)) = true := by simp; omega
      have hkC : k < C.length := by rw [HN.out.1]; exact hlt
      have HK : Box (k < n) := ⟨hlt⟩
      have HIo := HI.out wo HG.out.bel
      obtain ⟨b, o, hae, hbl, hr⟩ := HIo.tb (by omega)
      subst hae
      have hrk := hr k hkC
      obtain ⟨hcl, hcI, hcm⟩ := HIo.im C[k] (List.getElem_mem hkC)
      have hc10 := HN.out.2.2 C[k] (List.getElem_mem hkC)
      obtain ⟨⟨ca, cl, cc, CM⟩, hx⟩ : ∃ c, C[k] = c := ⟨_, rfl⟩
      rw [hx] at hrk hcl hcI hcm hc10
      dsimp only at hcl hcI hcm hc10
      have c0 : wo.cell? ⟨b, o + k, none⟩ = some (.slice ca cl cc) := by have := hrk 0 _ rfl; rwa [Nat.mul_one, Nat.add_zero] at this
      have HCI : Box (∀ wr, Below w.heap.size w wr → Imgs wr ca CM) := ⟨fun wr hb => by have := ((HI.out wr hb).im C[k] (List.getElem_mem hkC)).2.1; rw [hx] at this; exact this⟩
      have HAL : Box (allM (C.take (k + 1)) = allM (C.take k) ++ CM) := ⟨by rw [HL.out k hkC, hx]⟩
      have HCM : Box (CM.length = cl ∧ cl ≤ 1000) := ⟨hcl, hc10⟩
      obtain ⟨A, hA⟩ : ∃ A, allM (C.take k) = A := ⟨_, rfl⟩
      rw [hA] at HG HAL
      have HG0 : Box (LtK w wo g (A ++ CM.take 0)) := ⟨by simpa using HG.out⟩
      clear hx hrk hcl hcI hA HIo hr hbl hcm
      go_upto_region 5 with (refine atIdx 22 ?_; refine wpList_run rfl _ _ (exec_idxT 22 24 Tryd.underlying22 1 infoSlz _ _ rfl b o n cap k rfl rfl HK.out) ?_; (try rw [Nat.mul_one]))
      go_wp2
      go_loopw [20] (fun j wr => ∃ q : Nat, q ≤ cl ∧ j = .int .i64 (q : Int) ∧ Box (LtK w wr g (A ++ CM.take q))) (fun j _ => cl - (intOf j).toNat)
      case atStart => exact ⟨0, Nat.zero_le _, rfl, HG0⟩
      case round =>
        clear HG0
        obtain ⟨q, hq, rfl, HQ⟩ := hrel
        by_cases hql : q < cl
        · have hq1 : decide ((q : Int) < (cl : Int)) = true := by simp; omega
          have hqM : q < CM.length := by rw [HCM.out.1]; exact hql
          have HQL : Box (q < cl) := ⟨hql⟩
          obtain ⟨b2, o2, hae, hbl, hr2⟩ := (HCI.out wr HQ.out.bel).tb (by omega)
          subst hae
          have hrq := hr2 q hqM
          obtain ⟨⟨blk, ba, bl, bc, bs⟩, hx⟩ : ∃ m, CM[q] = m := ⟨_, rfl⟩
          rw [hx] at hrq
          simp only [imc] at hrq
          have HR : Box (wr.rangeAt b2 (o2 + q * 2) [.int .u64 blk, .slice ba bl bc]) := ⟨hrq⟩
          obtain ⟨G, hG⟩ : ∃ G, wr.heap.size = G := ⟨_, rfl⟩
          have HHG : Box (wr.heap.size = G) := ⟨hG⟩
          have HST : Box (∀ x w', Below wr.heap.size wr x → Mp w' g (mput (mF (A ++ CM.take q)) blk ⟨blk, ba, bl, bc, bs⟩) → But g x w' → LtK w w' g (A ++ CM.take (q + 1))) := ⟨fun x w' h1 h2 h3 => by
            have := HQ.out.step h1 ⟨blk, ba, bl, bc, bs⟩ h2 h3 (by have := HGG.out; omega)
            rw [List.take_succ_eq_append_getElem hqM, hx, ← List.append_assoc]
            exact this⟩
          have HMP : Box (∀ x, Below wr.heap.size wr x → Mp x g (mF (A ++ CM.take q))) := ⟨fun x hx' => HQ.out.mp.same (hx'.block g HQ.out.mp.lt)⟩
          clear hx hrq hr2 hG hbl
          go_upto_region 8 with (first
            | (refine atIdx 24 ?_; refine wpList_run rfl _ _ (exec_idxT 24 36 Tryd.underlying24 2 infoIm _ _ rfl b2 o2 cl cc q rfl rfl HQL.out) ?_)
            | (refine atLoad 36 ?_; refine wpList_ldMid rfl 36 _ _ rfl Tryd.underlying36 rfl b2 (o2 + q * 2) rfl [.int .u64 blk, .slice ba bl bc] infoIm HR.out ?_)
            | (refine atAlloc _ ?_; refine wpList_run rfl _ _ (exec_alloc 36 rfl _ zeroIm) ?_)
            | (refine atStore _ ?_; refine wpList_newRow wr #[.int .u64 0, .slice none 0 0] #[.int .u64 blk, .slice ba bl bc] infoIm rfl (by simp [Value.oneCell']) rfl _ _ rfl rfl rfl rfl ?_; intro x1 h1 hb1; have H1 : Box (x1.heap[wr.heap.size]? = some (.cells #[.int .u64 blk, .slice ba bl bc] 36 (0, 0)) ∧ Below wr.heap.size wr x1) := ⟨h1, hb1⟩; clear h1 hb1))
          (try simp only [HHG.out])
          have HRS : Box (x1.rangeAt G 0 [.int .u64 blk, .slice ba bl bc]) := ⟨by
            have := H1.out.1
            rw [HHG.out] at this
            exact range_arr this _ (fun j v hv => by simpa using hv)⟩
          have c1 : x1.cell? ⟨G, 0, none⟩ = some (.int .u64 blk) := HRS.out 0 _ rfl
          have HM1 : Box _ := ⟨HMP.out x1 H1.out.2⟩
          have hw5 : IntKind.i64.wrap ((q : Int) + 1) = ((q + 1 : Nat) : Int) := by have := HCM.out.2; rw [IntKind.wrap_i64]; omega
          go_wp2_with (first
            | (refine atLoad 36 ?_; refine wpList_ldMid rfl 36 _ _ rfl Tryd.underlying36 rfl G 0 rfl [.int .u64 blk, .slice ba bl bc] infoIm HRS.out ?_)
            | (at_mapUpdate; refine wpList_putM rfl 62 33 36 Tryd.underlying62 Tryd.underlying33 _ _ _ rfl g _ blk ⟨blk, ba, bl, bc, bs⟩ rfl rfl rfl HM1.out ?_; intro x2 h2 h3; have H2 : Box (LtK w x2 g (A ++ CM.take (q + 1))) := ⟨HST.out x1 x2 H1.out.2 h2 h3⟩; clear h2 h3))
          go_roundw
          case rel => exact ⟨q + 1, by omega, by go_num, H2⟩
          case measure => simp [intOf]; omega
        · have hq1 : decide ((q : Int) < (cl : Int)) = false := by simp; omega
          obtain rfl : q = cl := by omega
          have HE : Box (LtK w wr g (allM (C.take (k + 1)))) := ⟨by
            rw [HAL.out]
            have := HQ.out
            rwa [List.take_of_length_le (Nat.le_of_eq HCM.out.1)] at this⟩
          clear HQ
          have hwk : IntKind.i64.wrap ((k : Int) + 1) = ((k + 1 : Nat) : Int) := by have := HK.out; have := HN.out.2.1; rw [IntKind.wrap_i64]; omega
          go_wp2
          go_roundw
          case rel => exact ⟨k + 1, by have := HK.out; omega, by go_num, HE⟩
          case measure => have := HK.out; simp [intOf]; omega
    · have hlt1 : decide ((k : Int) < (n : Int)) = false := by simp; omega
      obtain rfl : k = n := by omega
      have HE : Box (LtK w wo g (allM C)) := ⟨by have := HG.out; rwa [List.take_of_length_le (Nat.le_of_eq HN.out.1)] at this⟩
      clear HG HL
      obtain ⟨mm, hmm⟩ : ∃ m, mF (allM C) = m := ⟨_, rfl⟩
      have HMM : Box (mF (allM C) = mm ∧ mm.length ≤ 1000000) := ⟨hmm, by rw [← hmm]; exact Nat.le_trans (len_mF _) HLM.out⟩
      have HMP : Box (Mp wo g mm) := ⟨by rw [← hmm]; exact HE.out.mp⟩
      have HMK : Box (i0.bytes * mm.length ≤ 281474976710656 ∧ mm.length ≤ maxLen ∧ w.heap.size ≤ wo.heap.size) := ⟨by have := HMM.out.2; rw [hz2]; omega, by have := HMM.out.2; unfold maxLen; omega, HE.out.bel.size⟩
      clear hmm
      go_upto_region 12 with (first
        | (at_len; refine wpList_lenM rfl 62 33 36 Tryd.underlying62 _ rfl g mm rfl HMP.out ?_)
        | (at_make; refine wpList_make_own _ rfl _ _ 24 rfl wo.heap.size 36 i0 _ 2 Tryd.underlying24 hi hz0 hz1 _ _ _ mm.length rfl rfl rfl HMK.out.1 HMK.out.2.1 (Nat.le_refl _) ?_; intro x1 a1 a2; have H1 : Box (x1.ownsRow wo.heap.size 36 2 (.slice (some ⟨wo.heap.size, 0, none⟩) 0 mm.length) 0 [] ∧ wo.grownBy x1 none) := ⟨a1, a2⟩; clear a1 a2))
      have HB1 : Box (Below wo.heap.size wo x1 ∧ Mp x1 g mm) := ⟨(Below.refl _ _).grown H1.out.2 (Nat.le_refl _) (fun j hj => by cases hj), HMP.out.same (H1.out.2.block g HMP.out.lt (by simp))⟩
      obtain ⟨r, hr⟩ : ∃ r, x1.heap.size = r := ⟨_, rfl⟩
      obtain ⟨B0, hB0⟩ : ∃ B, wo.heap.size = B := ⟨_, rfl⟩
      (try simp only [hB0])
      rw [hB0] at H1
      have HB0 : Box (wo.heap.size = B0 ∧ x1.heap.size = r) := ⟨hB0, hr⟩
      clear hB0
      go_wp2_with (at_range; refine wpList_rangeM rfl 62 33 36 Tryd.underlying62 _ rfl g mm rfl HB1.out.2 ?_; intro x2 a1 a2; have H2 : Box (Rg x2 g x1.heap.size mm [] ∧ Below x1.heap.size x1 x2) := ⟨a1, a2⟩; clear a1 a2)
      (try simp only [hr])
      (try go_frame)
      have HST0 : Box (LrK w wo x2 g r mm [] (.slice (some ⟨B0, 0, none⟩) 0 mm.length) []) := ⟨by
        have hrg := H2.out.1
        rw [hr] at hrg
        have o1 := own_to H1.out.1 H2.out.2
        have z1 := HB1.out.1.size
        have z2 := H2.out.2.size
        have z3 := HE.out.bel.size
        have z4 := HMP.out.lt
        rw [← HB0.out.1] at o1 ⊢
        exact ⟨hrg, ⟨o1, fun m hm => by simp at hm⟩, rfl, fun p hp => (by simp at hp), fun e => (by cases e), below_to HE.out.bel (below_to HB1.out.1 H2.out.2), ⟨z3, by omega, by omega, by have := HGG.out; omega, z4⟩⟩⟩
      clear hr H1
      go_loopw [8] (fun v wr => ∃ (dn : List (Int × Im)) (Y : List Im), Box (LrK w wo wr g r mm dn v Y)) (fun _ wr => wr.rangeLeft g r)
      case atStart => exact ⟨[], [], HST0⟩
      case round =>
        clear HST0 H2 HB1
        obtain ⟨dn, Y, HR⟩ := hrel
        rcases HR.out.rg.next2 (P := Tryd.prog) with ⟨hperm, hrun⟩ | ⟨p, x3, hp, hrun, hrg, hbt, hsz, hen, hlft⟩
        · have HP : Box ((dn.map kv).Perm (mm.map kv)) := ⟨hperm⟩
          have HSO : Box (Calls Tryd.prog 22 #[u8, .func (.func 23) #[] #[]] wr fun e w' => e = .returned (.tuple #[]) ∧ ∃ Y', Y'.Perm Y ∧ Y'.Pairwise (fun a b => a.blk ≤ b.blk) ∧ OImgs w' wo.heap.size u8 Y' ∧ wr.grownBy w' u8.ownBlock) := ⟨sortIm_v HR.out.im HR.out.nn (by
            have h1 := congrArg List.length HR.out.pls
            have h2 := hperm.length_eq
            have h3 := HMM.out.2
            simp at h1 h2
            omega)⟩
          clear hperm
          go_wp2_with (go_at_call 22; refine HSO.out.mono ?_; rintro e x3 ⟨rfl, Y', q1, q2, q3, q4⟩; have H3 : Box (Y'.Perm Y ∧ Y'.Pairwise (fun a b => a.blk ≤ b.blk) ∧ OImgs x3 wo.heap.size u8 Y' ∧ wr.grownBy x3 u8.ownBlock) := ⟨q1, q2, q3, q4⟩; clear q1 q2 q3 q4)
          go_ret
          have hR := HR.out
          rw [← HMM.out.1] at hR
          have hP := HP.out
          rw [← HMM.out.1] at hP
          have hlo := hR.lo
          refine ⟨u8, Y', rfl, ⟨own_low2 H3.out.2.2.1.row hlo.1, fun m hm => (H3.out.2.2.1.byt m hm).low hlo.1⟩, hR.fin hP H3.out.1 H3.out.2.1, hR.bel.grown H3.out.2.2.2 hR.bel.size (fun j hj => ?_)⟩
          have := (own_blk hR.im.row j hj).1
          omega
        · have hpm : p.2 ∈ allM C := mem_mF (allM C) p (by rw [HMM.out.1]; exact hp)
          have hpk : p.1 = p.2.blk := (mr_mF (allM C)).key p (by rw [HMM.out.1]; exact hp)
          have hby := HBY.out p.2 hpm
          obtain ⟨pk, pi⟩ := p
          obtain ⟨blk, ba, bl, bc, bs⟩ := pi
          dsimp only at hrun hrg hen hpm hpk hby
          simp only [imc] at hrun hen
          have hbw : Below w.heap.size w x3 := (HR.out.mid hbt).2
          have HCL : Box (∀ y, Below x3.heap.size x3 y → Calls Tryd.prog 21 #[.slice ba bl bc] y fun e w' => ∃ a' c', e = .returned (.slice a' bl c') ∧ w'.ownsRow y.heap.size 5 1 (.slice a' bl c') bl (bs.map (Value.int .u8)) ∧ Below y.heap.size y w') := ⟨fun y hy => clone_any ba bl bc bs y (hby.1.below (below_to hbw hy)) hby.2.2⟩
          have HST : Box (∀ (y w' : World) (a' : Option Addr) (c' : Nat) (v' : Value), Below x3.heap.size x3 y → y.ownsRow x3.heap.size 5 1 (.slice a' bl c') bl (bs.map (Value.int .u8)) → w'.ownsRow wo.heap.size 36 2 v' (Y.length + 1) ((Y.map imc).flatten ++ [.int .u64 pk, .slice a' bl c']) → y.grownBy w' u8.ownBlock → w'.rangeLeft g r < wr.rangeLeft g r ∧ ∃ dn' Y', LrK w wo w' g r mm dn' v' Y') := ⟨fun y w' a' c' v' h1 h2 h3 h4 => by
            have hst := HR.out.step hbt (pk, ⟨blk, ba, bl, bc, bs⟩) hp hrg h1 a' c' bl rfl h2 hby.1.2.1 (by rw [hpk]; exact hby.2.1) h3 h4 (app_nn h3)
            refine ⟨?_, _, _, hst⟩
            obtain ⟨m1, _⟩ := HR.out.mid hbt
            have hry := hrg.same (h1.block g hrg.lt.1) (h1.block r hrg.lt.2.1)
            have hne := hry.ne (m1.to h1).row
            have e1 : w'.rangeLeft g r = x3.rangeLeft g r := by
              unfold World.rangeLeft
              rw [h4.block g hry.lt.1 hne.1, h4.block r hry.lt.2.1 hne.2, h1.block g hrg.lt.1, h1.block r hrg.lt.2.1]
            rw [e1]
            exact hlft⟩
          have HOW : Box (∀ y, Below x3.heap.size x3 y → y.ownsRow wo.heap.size 36 2 u8 Y.length (Y.map imc).flatten ∧ wo.heap.size ≤ y.heap.size) := ⟨fun y hy => ⟨own_to (HR.out.mid hbt).1.row hy, by have := HR.out.lo; have := hbt.size; have := hy.size; omega⟩⟩
          have HYL : Box (Y.length ≤ 1000000) := ⟨by
            have h1 := congrArg List.length HR.out.pls
            have h3 := HMM.out.2
            have h4 : dn.length ≤ mm.length := by
              obtain ⟨es, clock, since, seen, c0, de, r1, r2, r3, r4, r5, r6, r7, r8, r9, r10⟩ := HR.out.rg
              have e1 : de.length = dn.length := by simpa using congrArg List.length r10
              have e2 : es.toList.length = mm.length := by simpa using congrArg List.length r2.kv
              have hsub : de ⊆ es.toList := r7
              have := List.Nodup.length_le_of_subset (nodup_of_keys _ r9) hsub
              omega
            simp at h1
            omega⟩
          obtain ⟨G, hG⟩ : ∃ G, x3.heap.size = G := ⟨_, rfl⟩
          have HHG : Box (x3.heap.size = G) := ⟨hG⟩
          clear hby hpm hpk hp hrg hbt hlft hbw hG HBY hsz
          go_upto_region 15 with (first
            | (refine atAlloc _ ?_; refine wpList_run rfl _ _ (exec_alloc 36 rfl _ zeroIm) ?_)
            | (refine atStore _ ?_; refine wpList_newRow x3 #[.int .u64 0, .slice none 0 0] #[.int .u64 blk, .slice ba bl bc] infoIm rfl (by simp [Value.oneCell']) rfl _ _ rfl rfl rfl rfl ?_; intro x4 h1 hb1; have H4 : Box (x4.heap[x3.heap.size]? = some (.cells #[.int .u64 blk, .slice ba bl bc] 36 (0, 0)) ∧ Below x3.heap.size x3 x4) := ⟨h1, hb1⟩; clear h1 hb1))
          (try simp only [HHG.out])
          have c1 : x4.cell? ⟨G, 1, none⟩ = some (.slice ba bl bc) := by have := H4.out.1; rw [HHG.out] at this; rw [cell_of_row _ _ _ _ _ _ this]; rfl
          have HC4 : Box _ := ⟨HCL.out x4 H4.out.2⟩
          clear hrun hen HCL
          go_wp2_with (first
            | (go_at_call 21; refine HC4.out.mono ?_; rintro e x5 ⟨a', c', rfl, q1, q2⟩; have H5 : Box (x5.ownsRow x3.heap.size 5 1 (.slice a' bl c') bl (bs.map (Value.int .u8)) ∧ Below x3.heap.size x3 x5) := ⟨own_low2 q1 H4.out.2.size, below_to H4.out.2 q2⟩; have HO5 : Box _ := ⟨HOW.out x5 H5.out.2⟩; clear q1 q2)
            | (refine atBuild 36 ?_; refine wpList_run rfl _ _ (exec_built 36 [(0, .tmp 41), (1, .tmp 44)] rfl [(0, .int .u64 pk), (1, .slice a' bl c')] rfl _ (built_Im _ _ _ _)) ?_)
            | (at_builtin; refine wpList_appR 24 36 Tryd.underlying24 2 32 _ infIm rfl (by decide) rfl (.tmp 40) (.tmp 46) rfl wo.heap.size Y.length u8 (Y.map imc).flatten [.int .u64 pk, .slice a' bl c'] x5 rfl rfl rfl HO5.out.1 rfl (by simp [Value.oneCell']) HYL.out (by decide) (by decide) HO5.out.2 ?_; intro v6 x6 a1 a2; have H6 : Box (x6.rangeLeft g r < wr.rangeLeft g r ∧ ∃ dn' Y', LrK w wo x6 g r mm dn' v6 Y') := ⟨HST.out x5 x6 a' c' v6 H5.out.2 H5.out.1 a1 a2⟩; clear a1 a2))
          go_roundw
          case rel =>
            obtain ⟨_, dn', Y', h⟩ := H6.out
            exact ⟨dn', Y', ⟨h⟩⟩
          case measure => exact H6.out.1
end Go.Proofs.YteaejodihmnbcaaDoor
namespace Go.Proofs.YteaejodihmnbcaaDoor
set_option maxRecDepth 100000
set_option linter.unusedVariables false
open Go.RowKit Plain
attribute [local go_sem] Oper.semAt_some
def j0 : Jt := ⟨k1, 0, 4, zs, 1, 100⟩
theorem ok_j0 : j0.Ok := ⟨len_k1, byt_k1, by decide, by decide, okS_zs, by decide, by decide, by decide, by decide⟩
def s01 : Jst := ⟨0, 1, z32⟩
theorem okS_s01 : OkS s01 := ⟨len_z32, byt_z32, by decide, by decide⟩
theorem built_St01 : Tryd.prog.built 48 [(1, .int .u64 1)] = some (sa s01) := by kernel_rfl
/-- One image in a block of its own. -/
theorem aw_img1 {w y : World} {g N : Nat} (hg : w.heap[g]? = some (.cells (u8s z160) 5 (0, 0))) (hb : Below w.heap.size w y) (hr : y.heap[N]? = some (.cells #[.int .u64 3, .slice (some ⟨g, 0, none⟩) 160 160] 36 (0, 0))) : Imgs y (some ⟨N, 0, none⟩) [⟨3, some ⟨g, 0, none⟩, 160, 160, z160⟩] := by
  refine imgs_of_row (M := [⟨3, some ⟨g, 0, none⟩, 160, 160, z160⟩]) (by rw [hr]; rfl) fun m hm => ?_
  simp only [List.mem_cons, List.not_mem_nil, or_false] at hm
  subst hm
  have hgy : y.heap[g]? = some (.cells (u8s z160) 5 (0, 0)) := (hb.block g (Array.getElem?_eq_some_iff.1 hg).1).trans hg
  refine ⟨?_, ⟨by show (0 : Int) ≤ 3; decide, by show (3 : Int) ≤ _; decide⟩, by show 160 ≤ 160; omega, by show 160 ≤ maxLen; unfold maxLen; omega⟩
  have := bytes_of_row byt_z160 hgy
  rwa [len_z160] at this
theorem aw_app (d : Disk.Dk) (hd : Up d) : ∃ d1 s1, appM j0 d [x3] = (d1, 2, 0, s1) ∧ s1.start = 0 ∧ s1.count = 1 ∧ OkS s1 ∧ Up d1 ∧ d1.n = d.n ∧ d1.ops.length = d.ops.length + 1 ∧ d1.uw.length = d.uw.length + 1 ∧ LGood d1 k1 0 4 s1 ∧ ldC d1 k1 0 4 s1 = [[x3]] ∧ ¬ LGood d1 k1 0 4 s01 := by
  have hb : bad [x3] = false := by simp [bad, x3, len_z160]
  have hu := appM_up j0 ok_j0 d [x3] hd hb (by decide) (by decide)
  have hj := jn_appM j0 ok_j0 d [x3] hd hb (by decide) (by decide) (fun x hx => by
    simp only [List.mem_cons, List.not_mem_nil, or_false] at hx
    subst hx
    exact ⟨len_z160, byt_z160, by decide, by decide⟩) (jn_nil d k1 0 4 0)
  have ho := ap_one j0 d x3 len_z160 (by decide) (by decide) hd.1 hd.2
  have hj2 : Jn (appM j0 d [x3]).1 k1 0 4 (appM j0 d [x3]).2.2.2 (([[x3]].map ofP).flatten) := by
    rw [List.nil_append] at hj
    have e : ([[x3]].map ofP).flatten = ofP [x3] := by simp
    rw [e]
    exact hj
  obtain ⟨g1, g2⟩ := jn_load hj2 (by simp)
  refine ⟨(appM j0 d [x3]).1, (appM j0 d [x3]).2.2.2, ?_, hu.st, hu.ct, hu.okS (by decide) (by decide), hu.up, hu.nn, by rw [hu.ops]; simp [pls], ?_, g1, g2, fun h => ?_⟩
  · have e1 := hu.nx
    have e2 := hu.er
    generalize appM j0 d [x3] = y at e1 e2 ⊢
    obtain ⟨y1, y2, y3, y4⟩ := y
    simp only at e1 e2
    subst e2
    rw [e1]
    rfl
  · obtain ⟨W, hW, hW2⟩ := hu.uw
    have := congrArg List.length hW2
    rw [hW]
    simp [pls] at this ⊢
    omega
  · have h1 := h.1
    rw [ho] at h1
    have e : lds (Disk.wrOk d (plc j0 (j0.st.start + j0.st.count)) (slt j0.key (plc j0 (j0.st.start + j0.st.count) : Int) j0.nx (x3, true))) 0 4 s01 = [(0, slt k1 0 1 (x3, true))] := by
      show (pcs 0 4 0 1).map _ = _
      have e2 : pcs 0 4 0 1 = [0] := by decide
      rw [e2]
      show [(0, Disk.lat (Disk.wrOk d 0 (slt k1 ((0 : Nat) : Int) 1 (x3, true))) 0)] = _
      rw [Disk.lat_wr, if_pos rfl]
      rfl
    have h2 : chn [(0, slt k1 0 1 (x3, true))] = z32 := by rw [← e]; exact h1
    exact link_one h2
end Go.Proofs.YteaejodihmnbcaaDoor
