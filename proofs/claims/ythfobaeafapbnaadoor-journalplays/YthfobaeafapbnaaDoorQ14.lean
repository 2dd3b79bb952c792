/-
 The reference of layer 6: Crash. And what follows it.
-/
import Derived.Test.YthfobaeafapbnaaDoorQ01
import Derived.Test.YthfobaeafapbnaaDoorQ13
import Derived.Test.YthfobaeafapbnaaDoorQ11
set_option linter.unusedVariables false
set_option maxRecDepth 100000
namespace Go.Proofs.YthfobaeafapbnaaDoor.Disk.Plain
end Go.Proofs.YthfobaeafapbnaaDoor.Disk.Plain
namespace Go.Proofs.YthfobaeafapbnaaDoor.Disk
open Go.RowKit Go.Proofs.YthfobaeafapbnaaDoor.Plain Go.Proofs.YthfobaeafapbnaaDoor.Disk.Plain
theorem kp_stop (L : List (Nat × List Int)) (K : List Bool) (k : Nat) (hk : K.length <= k) : ∀ m, k <= m -> m <= L.length -> kp (L.take m) K = kp (L.take k) K := by
 intro m h1 h2
 induction m with
 | zero => rw [show k = 0 by omega]
 | succ m ih =>
  by_cases e : k = m + 1
  ·rw [e]
  ·rw [kp_succ L K m (by omega), ih (by omega) (by omega)]
   have : K.getD m false = false := by simp [List.getD, show K.length <= m by omega]
   rw [this]
   simp
theorem kp_end (L : List (Nat × List Int)) (K : List Bool) (k : Nat) (hk : K.length <= k) (hl : k <= L.length) : kp (L.take k) K = kp L K := by
 have := kp_stop L K k hk L.length hl (Nat.le_refl _)
 rw [List.take_length] at this
 exact this.symm
theorem kp_yes (L : List (Nat × List Int)) (K : List Bool) (k : Nat) (h : k < L.length) (hk : K.getD k false = true) : kp (L.take (k + 1)) K = kp (L.take k) K ++ [L[k]] := by rw [kp_succ L K k h, hk]; simp
theorem kp_no (L : List (Nat × List Int)) (K : List Bool) (k : Nat) (h : k < L.length) (hk : K.getD k false = false) : kp (L.take (k + 1)) K = kp (L.take k) K := by rw [kp_succ L K k h, hk]; simp
theorem length_kp (L : List (Nat × List Int)) (K : List Bool) : (kp L K).length <= L.length := by
 unfold kp
 rw [List.length_map]
 exact Nat.le_trans (List.length_filter_le _ _) (by simp)
set_option maxRecDepth 20000 in
set_option maxHeartbeats 2000000 in
theorem rcrash_any (w : World) (n : Nat) (vd vw vo : Value) (l : Int) (b : Bool) (Ld L : List (Nat × List Int)) (ka : Option Addr) (kl kc : Nat) (K : List Bool) (hK : Bools w ka kl K) (hd : Rw w vd Ld) (hw : Rw w vw L) (ho : vo.oneCell' = true) (hLd : Ld.length + L.length < 1000000) (hkl : kl <= maxLen) :
  Calls Tryd.prog 29 #[.agg (rv n vd vw l b vo).toArray, .slice ka kl kc] w fun e w' => ∃ vd', e = .returned (.agg (rv n vd' (.slice none 0 0) (-1) false vo).toArray) /\ Below w.heap.size w w' /\ Rw w' vd' (Ld ++ kp L K) := by
 have HW : Box (Rw w vw L /\ vo.oneCell' = true /\ Ld.length + L.length < 1000000) := ⟨hw, ho, hLd⟩
 have HD : Box (Rw w vd Ld) := ⟨hd⟩
 have hL9 : L.length < 9223372036854775807 := by omega
 have hkl2 : kl < 9223372036854775808 := by unfold maxLen at hkl; omega
 have HKB : Box (Bools w ka kl K) := ⟨hK⟩
 clear hLd hd ho hK hkl
 obtain ⟨aw, cw, rfl⟩ := own_form2 hw
 clear hw
 have H : Box (Bx w.heap.size w ((w.alloc (.cells (rv n vd (.slice aw L.length cw) l b vo).toArray 36)).alloc (.cells #[.int .i64 0, .slice none 0 0, .slice none 0 0, .int .i64 0, .bool false, .slice none 0 0] 36)) (rv n vd (.slice aw L.length cw) l b vo)) := ⟨Bx.start w _ _ rfl⟩
 obtain ⟨S, HS⟩ : ∃ S, Box (w.heap.size = S) := ⟨_, ⟨rfl⟩⟩
 go_enter Tryd.func29, Tryd.ntmps29
 go_upto_region 1 with fail
 rw [HS.out] at H ⊢
 generalize (w.alloc (.cells (rv n vd (.slice aw L.length cw) l b vo).toArray 36)).alloc (.cells #[.int .i64 0, .slice none 0 0, .slice none 0 0, .int .i64 0, .bool false, .slice none 0 0] 36) = w1 at H ⊢
 have H0 : Box (Fl S w w1 n (.slice aw L.length cw) vo l b (Ld ++ kp (L.take 0) K)) := ⟨Fl.start H.out (by rw [List.take_zero]; simpa [kp] using HD.out)⟩
 clear H HD
 go_wp2
 go_loopw [5] (fun j wr => ∃ k : Nat, k <= L.length /\ j = .int .i64 k /\ Box (Fl S w wr n (.slice aw L.length cw) vo l b (Ld ++ kp (L.take k) K))) (fun j _ => L.length - (intOf j).toNat)
 case atStart => exact ⟨0, Nat.zero_le _, rfl, H0⟩
 case round =>
  obtain ⟨k, hk, rfl, HK⟩ := hrel
  clear H0
  obtain ⟨vd', hbx, hrw, hbl⟩ := HK.out
  have HB : Box (Bx S w wr (rv n vd' (.slice aw L.length cw) l b vo)) := ⟨hbx⟩
  have HR : Box (∀ w', Below wr.heap.size wr w' -> Rw w' vd' (Ld ++ kp (L.take k) K)) := ⟨fun w' hb => hrw.below hb⟩
  have c2 : wr.cell? ⟨S, 2, none⟩ = some (.slice aw L.length cw) := hbx.cell 2
  have HBl : Box (Rw wr vd' (Ld ++ kp (L.take k) K) /\ ∀ k, vd'.ownBlock = some k -> ¬ Two S k) := ⟨hrw, hbl⟩
  have HKc : Box (Bools wr ka kl K) := ⟨HKB.out.turned hbx.tu (fun ad e h0 hf => by
   obtain ⟨kb, ko, rfl, hkb, _⟩ := HKB.out.2 h0
   simp only [Option.some.injEq] at e
   subst e
   have := hbx.sz
   rcases hf with h | h <;> simp at h <;> omega)⟩
  clear hbx hrw hbl
  by_cases hlt : k < L.length
  ·by_cases hkk : k < kl
   ·obtain ⟨g, rfl, hg⟩ := HW.out.1.some_ (show 0 < L.length by omega)
    obtain ⟨kb, ko, rfl, hkb, hkc⟩ := HKc.out.2 (by omega)
    have ck := hkc k hkk
    clear hkb hkc HKc
    cases hKk : K.getD k false
    case false =>
     rw [hKk] at ck
     have HF : Box (Fl S w wr n (.slice (some ⟨g, 0, none⟩) L.length cw) vo l b (Ld ++ kp (L.take (k + 1)) K)) := ⟨by rw [kp_no L K k hlt hKk]; exact HK.out⟩
     clear HK HB HR HBl hg hKk
     go_wp2
     exact ⟨⟨k + 1, by omega, by simp, HF⟩, by simp [intOf]; omega⟩
    case true =>
     rw [hKk] at ck
     obtain ⟨x, hx⟩ : ∃ x, L[k] = x := ⟨_, rfl⟩
     have HXr : Box (∀ w', Turned (fun k => k = S) wr.drew w' -> w'.rangeAt g (k * 2) (rc x)) := ⟨fun w' ht => by
      have h5 : g < S := by have := HB.out.sz; omega
      rw [<- hx]
      exact range_turned (Rw.range (HB.out.old HW.out.1) k hlt) (w' := w') (fp := fun k => k = S) ⟨ht.os, ht.tape, ht.output, ht.size, ht.block⟩ (by omega)⟩
     obtain ⟨M, HM⟩ : ∃ M, Box (Ld ++ kp (L.take k) K = M) := ⟨_, ⟨rfl⟩⟩
     have HM2 : Box (Ld ++ kp (L.take (k + 1)) K = M ++ [x]) := ⟨by rw [<- HM.out, <- hx, List.append_assoc, kp_yes L K k hlt hKk]⟩
     have HML : Box (M.length < 1000000) := ⟨by rw [<- HM.out, List.length_append]; have h1 := HW.out.2.2; have h2 := length_kp (L.take k) K; rw [List.length_take] at h2; omega⟩
     rw [HM.out] at HR
     clear hx hg HBl HM HK hKk
     go_upto_region 5 with fail
     rename_i KK ax
     try simp only [Act.put, pC, pD, pE, pF, pG, pH]
     refine begin_kp S (.slice (some ⟨g, 0, none⟩) L.length cw) (by kernel_rfl) (fun wd hwd => ?_)
     have GB : Box (Bx S w wd (rv n vd' (.slice (some ⟨g, 0, none⟩) L.length cw) l b vo)) := ⟨by rw [hwd]; exact HB.out.on (Below.refl _ _).drew⟩
     have GX : Box (∀ w', Turned (fun k => k = S) wd w' -> w'.rangeAt g (k * 2) (rc x)) := ⟨fun w' ht => HXr.out w' (by rw [hwd] at ht; exact ⟨ht.os, ht.tape, ht.output, ht.size, ht.block⟩)⟩
     have GS : Box (Kp S (.slice (some ⟨g, 0, none⟩) L.length cw) wd wd) := ⟨Turned.refl _ _, GB.out.cell 2⟩
     have GM : Box (Calls Tryd.prog 48 #[vd', .agg (rc x).toArray] wd fun e w' => ∃ v', e = .returned v' /\ Rw w' v' (M ++ [x]) /\ Below wd.heap.size wd w' /\ ∀ k, v'.ownBlock = some k -> wd.heap.size <= k) := ⟨rmore_any wd vd' M x (HR.out wd (by rw [hwd]; exact (Below.refl _ _).drew)) HML.out⟩
     clear hwd
     refine wpAnyH_take (i := 0) (v := ?_) rfl (by kernel_rfl) (by kernel_rfl) (by kernel_rfl) (fun _ _ _ h => h) (Or.inl ⟨by rfl, ?_⟩) GS.out ?_
     rotate_left
     ·intro w' hB; clear hB; go_simp <;> with_reducible rfl
     try simp only [Act.put, pC, pD, pE, pF, pG]
     refine wpAnyH_take (i := 2) (v := ?_) rfl (by kernel_rfl) (by kernel_rfl) (by kernel_rfl) (fun _ _ _ h => h) (Or.inl ⟨by rfl, ?_⟩) GS.out ?_
     rotate_left
     ·intro w' hB; clear hB; go_simp <;> with_reducible rfl
     try simp only [Act.put, pC, pD, pE, pF, pG, pH]
     refine wpAnyH_take (i := 3) (v := (.slice (some ⟨g, 0, none⟩) L.length cw)) rfl (by kernel_rfl) (by kernel_rfl) (by kernel_rfl) (fun _ _ _ h => h) (Or.inl ⟨by rfl, fun w' hB => exec_load1 33 _ _ rfl Tryd.underlying33 rfl _ rfl _ hB.2⟩) GS.out ?_
     try simp only [Act.put, pC, pD, pE, pF, pG, pH]
     refine wpAnyH_take (i := 4) (v := ?_) rfl (by kernel_rfl) (by kernel_rfl) (by kernel_rfl) (fun _ _ _ h => h) (Or.inl ⟨by rfl, ?_⟩) GS.out ?_
     rotate_left
     ·intro w' hB; clear hB; go_simp <;> with_reducible rfl
     try simp only [Act.put, pC, pD, pE, pF, pG, pH]
     refine wpAnyH_take (i := 5) (v := ?_) rfl (by kernel_rfl) (by kernel_rfl) (by kernel_rfl) (fun _ _ _ h => h) (Or.inl ⟨by rfl, ?_⟩) GS.out ?_
     rotate_left
     ·intro w' hB; clear hB; go_simp <;> with_reducible rfl
     try simp only [Act.put, pC, pD, pE, pF, pG, pH]
     refine wpAnyH_take (i := 6) (v := .agg (rc x).toArray) rfl (by kernel_rfl) (by kernel_rfl) (by kernel_rfl) (fun _ _ _ h => h) (Or.inl ⟨by rfl, fun w' hB => exec_load_mid 126 _ _ rfl Tryd.underlying126 rfl g (k * 2) rfl (rc x) infoW2 (GX.out w' hB.1)⟩) GS.out ?_
     try simp only [Act.put, pC, pD, pE, pF, pG, pH]
     refine step_kp (i := 1) rfl (by kernel_rfl) (by rfl) (fun KK hK => ?_)
     refine wp_run (exec_load1 33 _ _ rfl Tryd.underlying33 rfl _ rfl vd' (GB.out.cell 1)) ?_
     refine hK _ _ GS.out ?_
     clear hK KK
     try simp only [Act.put, pC, pD, pE, pF, pG, pH]
     refine step_kp (i := 7) rfl (by kernel_rfl) (by rfl) (fun KK hK => ?_)
     go_simp
     refine Calls.mono GM.out ?_
     rintro e w4 ⟨v4, rfl, r4, b4, o4⟩
     have GB4 : Box (Bx S w w4 (rv n vd' (.slice (some ⟨g, 0, none⟩) L.length cw) l b vo)) := ⟨GB.out.on b4⟩
     have GS4 : Box (Kp S (.slice (some ⟨g, 0, none⟩) L.length cw) wd w4) := ⟨Turned.of_below b4, GB4.out.cell 2⟩
     have R4 : Box (Rw w4 v4 (M ++ [x]) /\ ∀ k, v4.ownBlock = some k -> S + 2 <= k) := ⟨r4, fun k hk => by have := o4 k hk; have := GB.out.lt; omega⟩
     refine hK _ _ GS4.out ?_
     clear hK KK r4 b4 o4
     try simp only [Act.put, pC, pD, pE, pF, pG, pH]
     refine wpAnyH_take (i := 8) (v := ?_) rfl (by kernel_rfl) (by kernel_rfl) (by kernel_rfl) (fun _ _ _ h => h) (Or.inl ⟨by rfl, ?_⟩) GS4.out ?_
     rotate_left
     ·intro w' hB; clear hB; go_simp <;> with_reducible rfl
     try simp only [Act.put, pC, pD, pE, pF, pG, pH]
     refine step_kp (i := 9) rfl (by kernel_rfl) (by rfl) (fun KK hK => ?_)
     refine wp_store_one 33 _ _ rfl infoWs v4 (cells_own R4.out.1) (one_own R4.out.1) rfl (D := S) (k := 1) rfl (by rw [GB4.out.cell 1]; rfl) (GB4.out.froz 1) ?_
     have GB5 : Box (Bx S w (w4.setCell ⟨S, 1, none⟩ v4) (rv n v4 (.slice (some ⟨g, 0, none⟩) L.length cw) l b vo)) := ⟨GB4.out.put 1 _⟩
     refine hK _ _ ⟨turned_set GS4.out.1 rfl _, GB5.out.cell 2⟩ ?_
     clear hK KK
     try simp only [Act.put, pF, pG, pH]
     refine wpAnyH_done (by kernel_rfl) ?_ _
     show KK _ _
     refine ax _ _ ?_
     try simp only [Act.put, pC, pD, pE, pF, pG, pH]
     have HF : Box (Fl S w (w4.setCell ⟨S, 1, none⟩ v4) n (.slice (some ⟨g, 0, none⟩) L.length cw) vo l b (Ld ++ kp (L.take (k + 1)) K)) := ⟨by rw [HM2.out]; exact Fl.step GB5.out R4.out.1 R4.out.2⟩
     generalize w4.setCell ⟨S, 1, none⟩ v4 = wy at HF ⊢
     clear ax HB HR c2 HXr HM2 HML GB GX GS GM GB4 GS4 R4 GB5 ck
     go_wp2
     go_roundw
     case rel => exact ⟨k + 1, by omega, by simp, HF⟩
     case measure => simp [intOf]; omega
   ·rw [kp_end L K k (by rw [HKc.out.1]; omega) hk] at HBl
    clear HK HKc
    have f2 := HB.out.froz 2
    have H2 : Box (Bx S w (((wr.setCell ⟨S, 2, none⟩ (.slice none 0 0)).setCell ⟨S, 4, none⟩ (.bool false)).setCell ⟨S, 3, none⟩ (.int .i64 (-1))) (rv n vd' (.slice none 0 0) (-1) false vo)) := ⟨((HB.out.put 2 _).put 4 _).put 3 _⟩
    have R2 : Box (Rw (((wr.setCell ⟨S, 2, none⟩ (.slice none 0 0)).setCell ⟨S, 4, none⟩ (.bool false)).setCell ⟨S, 3, none⟩ (.int .i64 (-1))) vd' (Ld ++ kp L K)) := ⟨own_turned HBl.out.1 (turned_set (turned_set (turned_set (Turned.refl _ _) (fp := fun k => k = S) rfl _) rfl _) rfl _) (fun k hk e => HBl.out.2 k hk (.inl e))⟩
    have c4 : (wr.setCell ⟨S, 2, none⟩ (.slice none 0 0)).cell? ⟨S, 4, none⟩ = some (.bool b) := (HB.out.put 2 _).cell 4
    have f4 := (HB.out.put 2 (.slice none 0 0)).froz 4
    have c3 : ((wr.setCell ⟨S, 2, none⟩ (.slice none 0 0)).setCell ⟨S, 4, none⟩ (.bool false)).cell? ⟨S, 3, none⟩ = some (.int .i64 l) := ((HB.out.put 2 _).put 4 _).cell 3
    have f3 := ((HB.out.put 2 (.slice none 0 0)).put 4 (.bool false)).froz 3
    go_upto_region 7 with fail
    generalize wr.setCell ⟨S, 2, none⟩ (.slice none 0 0) = wp at H2 R2 c4 f4 c3 f3 ⊢
    go_upto_region 8 with fail
    generalize wp.setCell ⟨S, 4, none⟩ (.bool false) = wq at H2 R2 c3 f3 ⊢
    go_upto_region 9 with fail
    generalize wq.setCell ⟨S, 3, none⟩ (.int .i64 (-1)) = w2 at H2 R2 ⊢
    clear f2 c2 HB HR c4 f4 c3 f3
    go_wp2_with (first
     | (refine wpList_ldD rfl _ rfl S (rv n vd' (.slice none 0 0) (-1) false vo) rfl H2.out.hB rfl ?_)
     | (refine wpList_stD rfl _ _ rfl S w _ (rv n vd' (.slice none 0 0) (-1) false vo) rfl rfl H2.out rfl (one_rv (one_own R2.out) rfl HW.out.2.1) ?_; intro w7 h7 b7 t7))
    (try simp only [Exit.inBlock, Exit.then])
    refine bodyPost_ret (results_D rfl _ _ (S + 1) _ rfl rfl h7) rfl ?_
    exact ⟨_, rfl, HS.out ▸ b7.below, own_turned R2.out t7 (fun k hk e => HBl.out.2 k hk (.inr e))⟩
  ·obtain rfl : k = L.length := by omega
   rw [List.take_length] at HBl
   clear HK HKc
   have f2 := HB.out.froz 2
   have H2 : Box (Bx S w (((wr.setCell ⟨S, 2, none⟩ (.slice none 0 0)).setCell ⟨S, 4, none⟩ (.bool false)).setCell ⟨S, 3, none⟩ (.int .i64 (-1))) (rv n vd' (.slice none 0 0) (-1) false vo)) := ⟨((HB.out.put 2 _).put 4 _).put 3 _⟩
   have R2 : Box (Rw (((wr.setCell ⟨S, 2, none⟩ (.slice none 0 0)).setCell ⟨S, 4, none⟩ (.bool false)).setCell ⟨S, 3, none⟩ (.int .i64 (-1))) vd' (Ld ++ kp L K)) := ⟨own_turned HBl.out.1 (turned_set (turned_set (turned_set (Turned.refl _ _) (fp := fun k => k = S) rfl _) rfl _) rfl _) (fun k hk e => HBl.out.2 k hk (.inl e))⟩
   have c4 : (wr.setCell ⟨S, 2, none⟩ (.slice none 0 0)).cell? ⟨S, 4, none⟩ = some (.bool b) := (HB.out.put 2 _).cell 4
   have f4 := (HB.out.put 2 (.slice none 0 0)).froz 4
   have c3 : ((wr.setCell ⟨S, 2, none⟩ (.slice none 0 0)).setCell ⟨S, 4, none⟩ (.bool false)).cell? ⟨S, 3, none⟩ = some (.int .i64 l) := ((HB.out.put 2 _).put 4 _).cell 3
   have f3 := ((HB.out.put 2 (.slice none 0 0)).put 4 (.bool false)).froz 3
   go_upto_region 7 with fail
   generalize wr.setCell ⟨S, 2, none⟩ (.slice none 0 0) = wp at H2 R2 c4 f4 c3 f3 ⊢
   go_upto_region 8 with fail
   generalize wp.setCell ⟨S, 4, none⟩ (.bool false) = wq at H2 R2 c3 f3 ⊢
   go_upto_region 9 with fail
   generalize wq.setCell ⟨S, 3, none⟩ (.int .i64 (-1)) = w2 at H2 R2 ⊢
   clear f2 c2 HB HR c4 f4 c3 f3
   go_wp2_with (first
    | (refine wpList_ldD rfl _ rfl S (rv n vd' (.slice none 0 0) (-1) false vo) rfl H2.out.hB rfl ?_)
    | (refine wpList_stD rfl _ _ rfl S w _ (rv n vd' (.slice none 0 0) (-1) false vo) rfl rfl H2.out rfl (one_rv (one_own R2.out) rfl HW.out.2.1) ?_; intro w7 h7 b7 t7))
   (try simp only [Exit.inBlock, Exit.then])
   refine bodyPost_ret (results_D rfl _ _ (S + 1) _ rfl rfl h7) rfl ?_
   exact ⟨_, rfl, HS.out ▸ b7.below, own_turned R2.out t7 (fun k hk e => HBl.out.2 k hk (.inr e))⟩
end Go.Proofs.YthfobaeafapbnaaDoor.Disk
namespace Go.Proofs.YthfobaeafapbnaaDoor.Disk.Plain
end Go.Proofs.YthfobaeafapbnaaDoor.Disk.Plain
namespace Go.Proofs.YthfobaeafapbnaaDoor.Disk
open Go.RowKit Go.Proofs.YthfobaeafapbnaaDoor.Plain Go.Proofs.YthfobaeafapbnaaDoor.Disk.Plain
end Go.Proofs.YthfobaeafapbnaaDoor.Disk
namespace Go.Proofs.YthfobaeafapbnaaDoor.Disk.Plain
end Go.Proofs.YthfobaeafapbnaaDoor.Disk.Plain
namespace Go.Proofs.YthfobaeafapbnaaDoor.Disk
open Go.RowKit Go.Proofs.YthfobaeafapbnaaDoor.Plain Go.Proofs.YthfobaeafapbnaaDoor.Disk.Plain
end Go.Proofs.YthfobaeafapbnaaDoor.Disk
namespace Go.Proofs.YthfobaeafapbnaaDoor.Disk.Plain
end Go.Proofs.YthfobaeafapbnaaDoor.Disk.Plain
namespace Go.Proofs.YthfobaeafapbnaaDoor.Disk
open Go.RowKit Go.Proofs.YthfobaeafapbnaaDoor.Plain Go.Proofs.YthfobaeafapbnaaDoor.Disk.Plain
end Go.Proofs.YthfobaeafapbnaaDoor.Disk
namespace Go.Proofs.YthfobaeafapbnaaDoor.Disk.Plain
end Go.Proofs.YthfobaeafapbnaaDoor.Disk.Plain
namespace Go.Proofs.YthfobaeafapbnaaDoor.Disk
open Go.RowKit Go.Proofs.YthfobaeafapbnaaDoor.Plain Go.Proofs.YthfobaeafapbnaaDoor.Disk.Plain
def Rs (w : World) (v : Value) (L : List (List Int)) : Prop := w.ownsRow 0 9 1 v L.length (L.map (fun B => .string (strOfNums B)))
theorem infoS : (Tryd.prog.info? 9).map (fun i => (i.zero, i.size, i.bytes)) = some (some (.string ByteArray.empty), 1, 16) := by kernel_rfl
def pls (L : List (Nat × List Int)) (k : Nat) : List (List Int) := (List.range k).map (rat L)
theorem pls_succ (L : List (Nat × List Int)) (k : Nat) : pls L (k + 1) = pls L k ++ [rat L k] := by simp [pls, List.range_succ]
theorem length_pls (L : List (Nat × List Int)) (k : Nat) : (pls L k).length = k := by simp [pls]
theorem one_str (B : List Int) : ∀ u ∈ [Value.string (strOfNums B)], u.oneCell' = true := by
 intro u hu
 simp only [List.mem_cons, List.not_mem_nil, or_false] at hu
 subst hu
 rfl
theorem im_step {S : Nat} {w wr w2 w3 : World} {lv v3 : Value} {N : List (List Int)} {X : List Int} {o p : Obj} {k : Nat} (h : Below S w wr /\ wr.heap[S]? = some p /\ Rs wr lv N /\ ∀ q, lv.ownBlock = some q -> S + 1 <= q) (hN : N.length = k) (hb : Below wr.heap.size wr w2) (hown : w3.ownsRow 0 9 1 v3 (k + 1) (N.map (fun B => .string (strOfNums B)) ++ [.string (strOfNums X)])) (hg : (w2.alloc o).grownBy w3 lv.ownBlock) (hk : ∀ k, v3.ownBlock = some k -> lv.ownBlock = some k ∨ (w2.alloc o).heap.size <= k) :
  Below S w w3 /\ w3.heap[S]? = some p /\ Rs w3 v3 (N ++ [X]) /\ ∀ q, v3.ownBlock = some q -> S + 1 <= q := by
 have hS : S < wr.heap.size := (Array.getElem?_eq_some_iff.1 h.2.1).1
 have h2 := hb.size
 have e1 : Below S w w2 := h.1.trans (hb.mono (by omega))
 refine ⟨(e1.alloc (by omega) _).grown hg (by simp; omega) (fun q hq => by have := h.2.2.2 q hq; omega), ?_, ?_, fun q hq => ?_⟩
 ·rw [hg.block S (by simp; omega) (fun e => by have := h.2.2.2 S e.symm; omega), Below.heap_alloc w2 o S (by omega), hb.block S hS]
  exact h.2.1
 ·unfold Rs
  rw [List.length_append, List.map_append, hN]
  exact hown
 ·rcases hk q hq with e | e
  ·exact h.2.2.2 q e
  ·simp at e; omega
theorem rs_on {w w' : World} {v : Value} {N : List (List Int)} {k : Nat} (h : Rs w v N) (hk : N.length = k) (hb : Below w.heap.size w w') : w'.ownsRow 0 9 1 v k (N.map (fun B => .string (strOfNums B))) := by
 subst hk
 exact own_below h hb
theorem Rs.nil (w : World) : Rs w (.slice none 0 0) [] := World.ownsRow_nil _ _ _ _
set_option maxRecDepth 20000 in
set_option maxHeartbeats 2000000 in
theorem rimage_any (w : World) (n : Nat) (vd vw vo : Value) (l : Int) (b : Bool) (Ld : List (Nat × List Int)) (hd : Rw w vd Ld) (hw : vw.oneCell' = true) (ho : vo.oneCell' = true) (hLd : Ld.length < 1000000) (hn : n <= 4096) :
  Calls Tryd.prog 33 #[.agg (rv n vd vw l b vo).toArray] w fun e w' => ∃ v', e = .returned v' /\ Below w.heap.size w w' /\ Rs w' v' (pls Ld n) /\ ∀ k, v'.ownBlock = some k -> w.heap.size <= k := by
 have HB0 : Box (Below w.heap.size w (w.alloc (.cells (rv n vd vw l b vo).toArray 36)) /\ (w.alloc (.cells (rv n vd vw l b vo).toArray 36)).heap[w.heap.size]? = some (.cells (rv n vd vw l b vo).toArray 36 (0, 0))) := ⟨(Below.refl _ w).alloc (Nat.le_refl _) _, al_at rfl⟩
 have HD : Box (Rw w vd Ld /\ Ld.length < 1000000) := ⟨hd, hLd⟩
 obtain ⟨S, HS⟩ : ∃ S, Box (w.heap.size = S) := ⟨_, ⟨rfl⟩⟩
 have hn9 : n < 9223372036854775807 := by omega
 have HN : Box (n <= 4096) := ⟨hn⟩
 clear hd hLd hn
 go_enter Tryd.func33, Tryd.ntmps33
 go_upto_region 1 with fail
 rw [HS.out] at HB0 ⊢
 generalize w.alloc (.cells (rv n vd vw l b vo).toArray 36) = w1 at HB0 ⊢
 go_wp2
 go_loopw [3, 4] (fun lv jv wr => ∃ k : Nat, k <= n /\ jv = .int .i64 k /\ Box (Below S w wr /\ wr.heap[S]? = some (.cells (rv n vd vw l b vo).toArray 36 (0, 0)) /\ Rs wr lv (pls Ld k) /\ ∀ q, lv.ownBlock = some q -> S + 1 <= q)) (fun _ jv _ => n - (intOf jv).toNat)
 case atStart => exact ⟨0, Nat.zero_le _, rfl, ⟨HB0.out.1, HB0.out.2, Rs.nil _, fun q hq => by simp [Value.ownBlock] at hq⟩⟩
 case round =>
  obtain ⟨k, hk, rfl, HK⟩ := hrel
  clear HB0
  obtain ⟨al, cl, rfl⟩ := own_form2 HK.out.2.2.1
  rw [length_pls] at HK ⊢
  have c0 : wr.cell? ⟨S, 0, none⟩ = some (.int .i64 (n : Int)) := (cell_of_row _ _ _ _ _ _ HK.out.2.1).trans rfl
  by_cases hlt : k < n
  ·have HA : Box (Calls Tryd.prog 50 #[.agg (rv n vd vw l b vo).toArray, .int .i64 (k : Int)] wr fun e w' => e = .returned (.string (strOfNums (rat Ld k))) /\ Below wr.heap.size wr w') := ⟨rat_any wr _ _ _ _ _ _ Ld k (HD.out.1.below (HS.out ▸ HK.out.1)) HD.out.2⟩
   have HLN : Box ((k + 1) * 16 <= 140737488355328) := ⟨by have := HN.out; omega⟩
   have HP := pls_succ Ld k
   have HPl : Box ((pls Ld k).length = k) := ⟨length_pls _ _⟩
   obtain ⟨X, HX⟩ : ∃ X, rat Ld k = X := ⟨_, rfl⟩
   rw [HX] at HA HP
   obtain ⟨N, HN⟩ : ∃ N, pls Ld k = N := ⟨_, rfl⟩
   rw [HN] at HP HPl HK
   have HP2 : Box (pls Ld (k + 1) = N ++ [X]) := ⟨HP⟩
   clear HP HX HN
   go_wp2_with (first
    | (refine wpList_ldD rfl _ rfl S (rv n vd vw l b vo) rfl HK.out.2.1 rfl ?_)
    | (go_at_call 50; refine HA.out.mono ?_; rintro e w2 ⟨rfl, b2⟩; have H2 : Box (Below wr.heap.size wr w2 /\ w2.ownsRow 0 9 1 (.slice al k cl) k (N.map (fun B => .string (strOfNums B)))) := ⟨b2, rs_on HK.out.2.2.1 HPl.out b2⟩; clear b2)
    | (at_builtin; refine wpList_app2 rfl _ _ 93 rfl 9 1 16 (.string ByteArray.empty) Tryd.underlying93 infoS rfl (by decide) (.slice al k cl) k (N.map (fun B => .string (strOfNums B))) rfl (H2.out.2.alloc _) ⟨w2.heap.size, 0, none⟩ 1 1 [.string (strOfNums X)] rfl rfl (news_new w2 [.string (strOfNums X)] _) (one_str _) HLN.out (by decide) ?_; intro v3 w3 hown hgr hblk; have H3 : Box (Below S w w3 /\ w3.heap[S]? = some (.cells (rv n vd vw l b vo).toArray 36 (0, 0)) /\ Rs w3 v3 (N ++ [X]) /\ ∀ q, v3.ownBlock = some q -> S + 1 <= q) := ⟨im_step HK.out HPl.out H2.out.1 hown hgr hblk⟩; obtain ⟨a3, c3, rfl⟩ := own_form2 hown; clear hown hgr hblk))
   exact ⟨⟨k + 1, by omega, by simp, ⟨by rw [HP2.out]; exact H3.out⟩⟩, by simp [intOf]; omega⟩
  ·obtain rfl : k = n := by omega
   go_wp2
   go_ret
   exact ⟨_, rfl, HS.out ▸ HK.out.1, HK.out.2.2.1, fun q hq => by have := HK.out.2.2.2 q hq; have := HS.out; omega⟩
end Go.Proofs.YthfobaeafapbnaaDoor.Disk
