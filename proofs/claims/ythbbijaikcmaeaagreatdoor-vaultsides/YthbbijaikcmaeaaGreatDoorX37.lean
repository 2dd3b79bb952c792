/-
  Read of a vault whose top was never written: its bytes lie where nothing else lies.
-/
import Derived.Test.YthbbijaikcmaeaaGreatDoorX36
namespace Go.Proofs.YthbbijaikcmaeaaGreatDoor
set_option maxRecDepth 100000
set_option linter.unusedVariables false
set_option maxRecDepth 100000
open Go.RowKit Go.Shelf Plain Go.Proofs.YthbbijaikcmaeaaGreatDoor.Shap.Plain
attribute [local go_sem] Oper.semAt_some
def GetZ (w0 w : World) (V D : Nat) (fp : Nat → Prop) (v : Vt) (sa : Option Addr) (sc : Nat) (q : Disk.Dk × Int × List Int) (e : Ending) (w' : World) : Prop :=
  ∃ fp' a, VC w0 w' V D fp' v q.1 sa sc ∧ Fw No w w' fp fp' ∧ e = .returned (.tuple #[.slice a q.2.2.length q.2.2.length, .int .i64 q.2.1]) ∧ Bytes w' a q.2.2.length q.2.2 ∧ ∀ ad, a = some ad → ¬ fp' ad.block ∧ w.heap.size ≤ ad.block
theorem ofN_zero (k : Nat) : ((ofN y160 4).getD k zr).s = 0 := by
  rcases Nat.lt_or_ge k 4 with h | h
  · match k, h with
    | 0, _ => decide
    | 1, _ => decide
    | 2, _ => decide
    | 3, _ => decide
  · rw [List.getD_eq_getElem?_getD, List.getElem?_eq_none (by rw [len_ofN]; exact h)]
    rfl
theorem fputs_zero (n l i : Nat) (F : Nat → Rf) (hF : ∀ j, (F j).s = 0) (ks : List (Fin 4)) : ∀ j, (Fputs n l i (ofN y160 4) F ks j).s = 0 := by
  unfold Fputs
  induction ks generalizing F with
  | nil => exact hF
  | cons k ks ih =>
    simp only [List.foldl_cons]
    refine ih _ (fun j => ?_)
    unfold Fput
    split
    · exact ofN_zero _
    · exact hF j
theorem rdSt_zero (K : List Int) (n q : Nat) (s : Disk.Dk × Int × (Nat → Rf)) (j : Nat) (h : ∀ x, (s.2.2 x).s = 0) : ∀ x, ((rdSt K n q s j).2.2 x).s = 0 := by
  unfold rdSt
  split
  · exact h
  · unfold ndM
    split
    · exact h
    · have e : (getM (Yk K) Xd n s.1 (j + 1) (q / 4 ^ (j + 1)) (s.2.2 (itm n (j + 1) (q / 4 ^ (j + 1))))).2.2 = y160 := by rw [getM, if_pos (h _)]
      simp only [e]
      exact fputs_zero _ _ _ _ h _
theorem fold_zero (K : List Int) (n q m : Nat) : ∀ (pre : List (Fin m)) (s : Disk.Dk × Int × (Nat → Rf)), (∀ x, (s.2.2 x).s = 0) → ∀ x, ((pre.foldl (fun s j => rdSt K n q s j.val) s).2.2 x).s = 0
  | [], s, h => h
  | j :: pre, s, h => fold_zero K n q m pre _ (rdSt_zero K n q s j.val h)
theorem f0_zero (n : Nat) (top : Rf) (h : top.s = 0) : ∀ x, (F0 n top x).s = 0 := fun x => by
  unfold F0
  split
  · exact h
  · rfl
set_option maxHeartbeats 1000000 in
theorem get_z {w0 w : World} {V D : Nat} {fp : Nat → Prop} {v : Vt} {d : Disk.Dk} {sa : Option Addr} {sc : Nat} (C : VC w0 w V D fp v d sa sc) (x : Int) (r : Rf) (hr : OkR r) (h0 : r.s = 0) :
    Calls Tryz.prog 43 #[.pointer (some ⟨V, 0, none⟩), .int .i64 x, .agg (ra r)] w fun e w' => GetZ w0 w V D fp v sa sc (d, 0, y160) e w' := by
  obtain ⟨w1, hw1⟩ : ∃ w1, w.alloc (.cells (ra r) 36) = w1 := ⟨_, rfl⟩
  have hb1 : Below w.heap.size w w1 := by rw [← hw1]; exact (Below.refl _ _).alloc (Nat.le_refl _) _
  have hr1 : w1.heap[w.heap.size]? = some (.cells (ra r) 36 (0, 0)) := by rw [← hw1]; exact al_at rfl
  have f1 : w1.cell? ⟨w.heap.size, 32, none⟩ = some (.int .u64 0) := by
    rw [cell_of_row _ _ _ _ _ _ hr1]
    simp [ra, rc, hr.ld, h0]
  have HF : Box (GetZ w0 w V D fp v sa sc (d, 0, y160) (.returned (.tuple #[.slice (some ⟨w1.heap.size, 0, none⟩) 160 160, .int .i64 0])) (w1.alloc (.cells (u8s y160) 5))) := ⟨by
    have hb2 : Below w.heap.size w (w1.alloc (.cells (u8s y160) 5)) := hb1.alloc hb1.size _
    refine ⟨fp, some ⟨w1.heap.size, 0, none⟩, C.below hb2, Fw.below No fp hb2, rfl, ?_, fun ad e => by cases e; exact ⟨fun hf => by have := C.cx.hi _ hf; have := hb1.size; simp only at *; omega, hb1.size⟩⟩
    exact bytes_of_row (byt_zeros 160) (al_at rfl)⟩
  clear hb1 hr1 C
  go_enter Tryz.func43, Tryz.ntmps43
  go_wp2_with (refine wpList_run rfl _ _ (exec_make160 _ _ rfl rfl rfl) ?_)
  go_ret2
  exact HF.out
set_option maxHeartbeats 4000000 in
theorem read_z {w0 w : World} {V D : Nat} {fp : Nat → Prop} {v : Vt} {d : Disk.Dk} {sa : Option Addr} {sc : Nat} (C : VC w0 w V D fp v d sa sc) (q : Nat) (hq : q < v.n) (hop : d.ops.length < 999000) (hup : d.uw.length < 1000000) (hzt : v.top.s = 0) :
    Calls Tryz.prog 18 #[.pointer (some ⟨V, 0, none⟩), .int .u64 (q : Int)] w fun e w' => GetZ w0 w V D fp v sa sc (readM (Yk v.key) Xd v.n q (topL v.n) d v.top) e w' := by
  refine (callsIn_wide (n := 3)).1 ?_
  have HZT : Box (v.top.s = 0) := ⟨hzt⟩
  clear hzt
  have h11 := C.ok.lo
  have h12 := C.ok.hi
  obtain ⟨hT1, hT2, hT3⟩ := topL_bd v.n h11 h12
  obtain ⟨L, hL⟩ : ∃ L, pth (wid v.n) q (wid v.n).length = L := ⟨_, rfl⟩
  have hLl : L.length = (wid v.n).length := by rw [← hL]; exact length_pth _ _ _
  have hD1 := len_drop v.n q h11 h12
  have hD2 := drop_pth v.n q h11 h12
  have hit0 : L.getD 0 0 = (itm v.n 0 q : Nat) := by
    have := pth_itm v.n h11 h12 q (wid v.n).length 0 (by omega) (Nat.le_refl _)
    rw [hL] at this
    simpa using this
  rw [hL] at hD1 hD2
  obtain ⟨S, hS⟩ : ∃ S, w.heap.size = S := ⟨_, rfl⟩
  obtain ⟨w1, hw1⟩ : ∃ w1, ((w.alloc (.cells #[.pointer (some ⟨V, 0, none⟩)] 31)).alloc (.cells #[.slice none 0 0] 38)).alloc (.cells #[.int .i64 0] 28) = w1 := ⟨_, rfl⟩
  have hb1 : Below w.heap.size w w1 := by rw [← hw1]; exact (((Below.refl _ _).alloc (Nat.le_refl _) _).alloc (by simp) _).alloc (by simp; omega) _
  have h0 : w1.heap[S]? = some (.cells #[.pointer (some ⟨V, 0, none⟩)] 31 (0, 0)) := by rw [← hw1]; exact al_old (al_old (al_at hS))
  have h1 : w1.heap[S + 1]? = some (.cells #[.slice none 0 0] 38 (0, 0)) := by rw [← hw1]; exact al_old (al_at (by simp [hS]))
  have h2 : w1.heap[S + 2]? = some (.cells #[.int .i64 0] 28 (0, 0)) := by rw [← hw1]; exact al_at (by simp [hS])
  have hsz1 : w1.heap.size = S + 3 := by rw [← hw1]; simp [hS]
  have c0 : w1.cell? ⟨S, 0, none⟩ = some (.pointer (some ⟨V, 0, none⟩)) := by rw [cell_of_row _ _ _ _ _ _ h0]; rfl
  have cv : w1.cell? ⟨V, 33, none⟩ = some (.int .u64 (v.n : Int)) := (C.below hb1).rd.leaves
  have hge : decide ((v.n : Int) ≤ (q : Int)) = false := by simp; omega
  have hge2 : decide (v.n ≤ q) = false := by simp; omega
  have hge3 : (v.n ≤ q) = False := by simp; omega
  have HR : Box (w1.heap[S]? = some (.cells #[.pointer (some ⟨V, 0, none⟩)] 31 (0, 0)) ∧ w1.heap[S + 1]? = some (.cells #[.slice none 0 0] 38 (0, 0)) ∧ w1.heap[S + 2]? = some (.cells #[.int .i64 0] 28 (0, 0)) ∧ w1.heap.size = S + 3 ∧ Below w.heap.size w w1) := ⟨h0, h1, h2, hsz1, hb1⟩
  have CP : Box _ := ⟨path_v (C.below hb1) q hq⟩
  have CKn : Box (∀ x, Below w1.heap.size w1 x → Calls Tryz.prog 40 #[.pointer (some ⟨V, 0, none⟩)] x fun e w' => ∃ kb, e = .returned (.map (some kb)) ∧ Mp w' kb (fput (fun _ => none) (itm v.n (topL v.n) 0 : Nat) (.agg (ra v.top))) ∧ Below x.heap.size x w' ∧ x.heap.size ≤ kb) := ⟨fun x hx => known_v (C.below (below_to hb1 hx))⟩
  have HC : Box (VC w0 w V D fp v d sa sc ∧ q < v.n ∧ d.ops.length < 999000 ∧ d.uw.length < 1000000) := ⟨C, hq, hop, hup⟩
  have HN : Box (w.heap.size = S) := ⟨hS⟩
  have HT : Box (1 ≤ topL v.n ∧ topL v.n ≤ 5 ∧ topL v.n + 1 = (wid v.n).length ∧ 1 ≤ v.n ∧ v.n ≤ 1024) := ⟨hT1, hT2, hT3, h11, h12⟩
  have HLL : Box (pth (wid v.n) q (wid v.n).length = L ∧ L.length = (wid v.n).length ∧ (L.drop 1).length = topL v.n ∧ L.getD 0 0 = (itm v.n 0 q : Nat)) := ⟨hL, hLl, hD1, hit0⟩
  have HLD : Box (∀ (j : Nat) (hj : j < (L.drop 1).length), (L.drop 1)[j] = (itm v.n (j + 1) (q / 4 ^ (j + 1)) : Nat) ∧ j + 1 ≤ topL v.n) := ⟨hD2⟩
  clear hS hb1 h0 h1 h2 hsz1 C hq hop hup hT1 hT2 hT3 h11 h12 hL hLl hD1 hD2 hit0
  obtain ⟨len, hlen⟩ : ∃ len, (wid v.n).length = len := ⟨_, rfl⟩
  rw [hlen] at CP HLL HT
  have hl2 : 2 ≤ len := by have := HT.out; omega
  refine callsIn_of_wp_marks Tryz.func18 rfl trivial ?_ rfl
  simp only [Tryz.ntmps18, List.size_toArray, List.length_cons, List.length_nil, Nat.reduceAdd, Nat.reduceSub, Array.replicate_succ, Array.replicate_zero, List.push_toArray, List.append_toArray, List.nil_append, List.cons_append]
  refine wpIn_wide.2 ?_
  go_upto_region 1 with fail
  simp only [HN.out]
  go_upto_region 7 with (first
    | (go_at_call 39; refine Calls.mono CP.out ?_; rintro e x1 ⟨pa, pcp, rfl, p1, p2, p3, p4, p5⟩; have HP : Box (Shap.Ints x1 pa len (pth (wid v.n) q len) ∧ Below w1.heap.size w1 x1 ∧ len ≤ pcp ∧ pcp ≤ maxLen ∧ ∀ ad, pa = some ad → w1.heap.size ≤ ad.block) := ⟨p1, p2, p3, p4, p5⟩; have c01 : x1.cell? ⟨S, 0, none⟩ = some (.pointer (some ⟨V, 0, none⟩)) := (p2.cell (p := ⟨S, 0, none⟩) (World.block_lt_of_cell? _ _ c0)).trans c0; clear p1 p2 p3 p4 p5)
    | (go_at_call 40; refine Calls.mono (CKn.out x1 HP.out.2.1) ?_; rintro e x2 ⟨kb, rfl, k1, k2, k3⟩; have HK : Box (Mp x2 kb (fput (fun _ => none) (itm v.n (topL v.n) 0 : Nat) (.agg (ra v.top))) ∧ Below x1.heap.size x1 x2 ∧ x1.heap.size ≤ kb) := ⟨k1, k2, k3⟩; clear k1 k2 k3))
  obtain ⟨x3, hx3⟩ : ∃ x3, x2.alloc (.cells #[.map (some kb)] 88) = x3 := ⟨_, rfl⟩
  rw [hx3]
  obtain ⟨pb, po, epa, hpl, hpc⟩ := HP.out.1.2 (by omega)
  subst epa
  have hsl := islice1 pb po len pcp (by omega) HP.out.2.2.1
  clear hpl hpc
  go_wp2_with (first
    | (go_at_call 41; refine Calls.mono (backI_v (some ⟨pb, po + 1, none⟩) (len - 1) (pcp - 1) x3) ?_; rintro e x4 ⟨rfl, hx4⟩))
  refine (wpIn_wide (n := 3)).1 ?_
  obtain ⟨hC, hq, hop, hup⟩ := HC.out
  obtain ⟨r0, r1, r2, rsz, rb⟩ := HR.out
  obtain ⟨hP1, hP2, hP3, hP4, hP5⟩ := HP.out
  obtain ⟨hK1, hK2, hK3⟩ := HK.out
  obtain ⟨hLL1, hLL2, hLL3, hLL4⟩ := HLL.out
  rw [hLL1] at hP1
  obtain ⟨Sk, hSk⟩ : ∃ Sk, x2.heap.size = Sk := ⟨_, rfl⟩
  obtain ⟨Bs, hBs⟩ : ∃ Bs, x3.heap.size = Bs := ⟨_, rfl⟩
  have hb3 : Below x2.heap.size x2 x3 := by rw [← hx3]; exact (Below.refl _ _).alloc (Nat.le_refl _) _
  have hb4 : Below x3.heap.size x3 x4 := by rw [hx4]; exact (Below.refl _ _).alloc (Nat.le_refl _) _
  have b24 : Below x2.heap.size x2 x4 := below_to hb3 hb4
  have b14 : Below x1.heap.size x1 x4 := below_to hK2 b24
  have bw4 : Below w1.heap.size w1 x4 := below_to hP2 b14
  have b04 : Below w.heap.size w x4 := below_to rb bw4
  have hkl := hK1.lt
  have hs1 := hP2.size
  have hs2 := hK2.size
  have hs3 : x3.heap.size = Sk + 1 := by rw [← hx3, ← hSk]; simp
  have hs4 : x4.heap.size = Sk + 2 := by rw [hx4]; simp [hs3]
  have hpl := ints_lt hP1 (by omega)
  have hpb := hpl _ rfl
  have hpb2 := hP5 _ rfl
  have hl1 : (L.drop 1).length = len - 1 := by rw [List.length_drop, hLL2]
  have mem4 : RdB x4 V kb S Sk (some ⟨pb, po, none⟩) len L (.slice none 0 0) (.int .i64 0) := ⟨(bw4.block S (by omega)).trans r0, (bw4.block (S + 1) (by omega)).trans r1, (bw4.block (S + 2) (by omega)).trans r2, (hb4.block Sk (by omega)).trans (by rw [← hx3]; exact al_at hSk), hP1.below b14⟩
  have bk4 : Bk x4 Bs (some ⟨pb, po + 1, none⟩) (pcp - 1) (L.drop 1) := ⟨by rw [hx4, hl1]; exact al_at hBs, ints_drop mem4.pth⟩
  have hI4 : RdI w0 x4 V D fp v sa sc kb S Sk (some ⟨pb, po, none⟩) len L d (F0 v.n v.top) (.slice none 0 0) (.int .i64 0) x4 fp (fput (fun _ => none) (itm v.n (topL v.n) 0 : Nat) (.agg (ra v.top))) := ⟨hC.below b04, hK1.same (b24.block kb hkl), relF_0 _ _, okF_0 _ _ hC.ok.top, Fw.refl _ _ _, mem4⟩
  have HI4 : Box _ := ⟨hI4⟩
  have hwS := HN.out
  have HNN : Box (S + 3 ≤ kb ∧ kb < Sk ∧ x4.heap.size = Sk + 2 ∧ Bs = Sk + 1 ∧ S + 3 ≤ pb ∧ pb < kb ∧ w0.heap.size ≤ S) := ⟨by dsimp only at hpb hpb2; refine ⟨by omega, by omega, by omega, by omega, by omega, by omega, ?_⟩; have := hC.cx.bel.size; omega⟩
  have HFS : Box (∀ k, S ≤ k → ¬ fp k) := ⟨fun k hk hf => by have := hC.cx.hi k hf; omega⟩
  have hlq : (L.drop 1).length < 1000000 := by have := HT.out; omega
  have B04 : Box (Below w.heap.size w x4) := ⟨b04⟩
  rw [← hx4, hBs, hSk, ← hl1]
  clear hC hop hup r0 r1 r2 rsz rb hP1 hP2 hP3 hP4 hP5 hK1 hK2 hK3 hLL1 hLL2 hLL4 hb3 hb4 b24 b14 bw4 b04 hkl hs1 hs2 hs3 hs4 hpl hpb hpb2 mem4 hI4 hx3 hx4 hSk hBs c01 c0 cv hsl HP HK CKn HR hwS hw1 hge hge2 hge3
  refine range_simple (bkS Bs (some ⟨pb, po + 1, none⟩)) (by decide) (gf := 61) (lb := #[.pointer (some ⟨Bs, 0, none⟩)]) rfl (enters_of Tryz.func61 (by kernel_rfl) rfl)
    (backI_stops 2 (by decide) Bs (pcp - 1) (some ⟨pb, po + 1, none⟩) (L.drop 1) hlq _ (fun _ h => h) x4 bk4) (fun _ => rfl)
    (fun pre W => (pre.foldl (fun s j => rdSt v.key v.n q s j.val) (d, 0, F0 v.n v.top)).2.1 = 0 ∧ ∃ fp' g, RdI w0 x4 V D fp v sa sc kb S Sk (some ⟨pb, po, none⟩) len L (pre.foldl (fun s j => rdSt v.key v.n q s j.val) (d, 0, F0 v.n v.top)).1 (pre.foldl (fun s j => rdSt v.key v.n q s j.val) (d, 0, F0 v.n v.top)).2.2 (.slice none 0 0) (.int .i64 0) W fp' g)
    (fun c pre W => c = .ret ∧ (pre.foldl (fun s j => rdSt v.key v.n q s j.val) (d, 0, F0 v.n v.top)).2.1 ≠ 0 ∧ ∃ fp' g, RdI w0 x4 V D fp v sa sc kb S Sk (some ⟨pb, po, none⟩) len L (pre.foldl (fun s j => rdSt v.key v.n q s j.val) (d, 0, F0 v.n v.top)).1 (pre.foldl (fun s j => rdSt v.key v.n q s j.val) (d, 0, F0 v.n v.top)).2.2 (.slice none 0 0) (.int .i64 (pre.foldl (fun s j => rdSt v.key v.n q s j.val) (d, 0, F0 v.n v.top)).2.1) W fp' g)
    (fun pre X Y row hs hg hr => ⟨hs.1, by obtain ⟨f1, f2, f3⟩ := hs.2; exact ⟨f1, f2, f3.grown (by have := HNN.out; omega) (by have := HNN.out; omega) (by omega) hg hr⟩⟩)
    (fun c pre X Y row hs hg hr => ⟨hs.1, hs.2.1, by obtain ⟨f1, f2, f3⟩ := hs.2.2; exact ⟨f1, f2, f3.grown (by have := HNN.out; omega) (by have := HNN.out; omega) (by omega) hg hr⟩⟩) ⟨rfl, fp, _, HI4.out⟩
    (fun a x => { tmps := ((a.tmps.setIfInBounds 28 (.int .i64 (x.val : Int))).setIfInBounds 29 (.int .i64 (L.drop 1)[x])).setIfInBounds 9 (.int .i64 (L.drop 1)[x]), defers := [] })
    ?assign ?body ?done ?stop
  case assign =>
    intro lp x W K hK
    simp only [encI, List.zip_toArray, List.zip_cons_cons, List.zip_nil_right, List.foldl_toArray, List.foldl_cons, List.foldl_nil, List.setIfInBounds_toArray, List.set_cons_succ, List.set_cons_zero] at hK ⊢
    gi_wp2
    exact hK
  case body =>
    intro lp pre x W hlp hr hIp hlt
    obtain ⟨hs0, fp', g, hI⟩ := hIp
    obtain ⟨j, hj⟩ := x
    obtain ⟨s, hs⟩ : ∃ s, pre.foldl (fun s j => rdSt v.key v.n q s j.val) (d, 0, F0 v.n v.top) = s := ⟨_, rfl⟩
    have hfd := fold_disk v.key v.n q (L.drop 1).length pre (d, 0, F0 v.n v.top)
    rw [hs] at hs0 hI hfd
    obtain ⟨hq1, hq2, hq3, hq4⟩ := HC.out
    obtain ⟨hLd, hjT⟩ := HLD.out j hj
    have hT := HT.out
    have hiw : q / 4 ^ (j + 1) < wd v.n (j + 1) := quart_lt v.n q hq2 (j + 1)
    obtain ⟨z, hz⟩ : ∃ z, getM (Yk v.key) Xd v.n s.1 (j + 1) (q / 4 ^ (j + 1)) (s.2.2 (itm v.n (j + 1) (q / 4 ^ (j + 1)))) = z := ⟨_, rfl⟩
    have hst : (pre ++ [(⟨j, hj⟩ : Fin (L.drop 1).length)]).foldl (fun s (j : Fin (L.drop 1).length) => rdSt v.key v.n q s j.val) (d, 0, F0 v.n v.top) = if z.2.1 ≠ 0 then (z.1, z.2.1, s.2.2) else (z.1, 0, Fputs v.n j (q / 4 ^ (j + 1)) (ofN z.2.2 4) s.2.2 (fr (chn v.n j (q / 4 ^ (j + 1))))) := by
      rw [List.foldl_append, hs]
      simp only [List.foldl_cons, List.foldl_nil]
      rw [rdSt, if_neg (by simpa using hs0), ndM]
      simp only [hz]
    have hpl : pre.length ≤ 5 := by have := HLL.out; omega
    have CN := node_v hI.vc j (q / 4 ^ (j + 1)) hjT hiw kb g hI.mp (by have := HNN.out; omega) (s.2.2 (itm v.n (j + 1) (q / 4 ^ (j + 1)))) (hI.okf _) (hI.rel _) (by have := hfd.2.2; simp only at this; omega) (by rw [hfd.1]; exact hq4)
    rw [hz] at CN
    have hcell : ∀ k, S ≤ k → k < x4.heap.size → ¬ fp' k := fun k h1 h2 => hI.fw.k k h2 (HFS.out k h1)
    have HMB : Box (∀ x5 fp'' x6, VC w0 x5 V D fp'' v z.1 sa sc → Fw (fun k => k = kb) W x5 fp' fp'' → Below x5.heap.size x5 x6 → KeepsFrom x4.heap.size W x6 ∧ Kps (bkS Bs (some ⟨pb, po + 1, none⟩)) W x6 ∧ VC w0 x6 V D fp'' v z.1 sa sc ∧ Fw (fun k => k = kb ∨ k = S + 1 ∨ k = S + 2) x4 x6 fp fp'' ∧ RdB x6 V kb S Sk (some ⟨pb, po, none⟩) len L (.slice none 0 0) (.int .i64 0) ∧ ¬ fp'' (S + 1) ∧ ¬ fp'' (S + 2)) := ⟨fun x5 fp'' x6 a1 a2 a3 => by
      have hn := HNN.out
      have h5 := a2.size
      have h6 := a3.size
      have h4 := hI.fw.size
      have key : ∀ k, k < W.heap.size → ¬ fp' k → k ≠ kb → x6.heap[k]? = W.heap[k]? := fun k hk h1 h2 => (a3.block k (by omega)).trans (a2.block hk h1 h2)
      refine ⟨⟨by omega, fun k o hB hk ho => ?_⟩, ⟨by omega, fun k hk cs t f e => ?_⟩, a1.below a3, (hI.fw.trans (a2.wider (fun k _ h => .inl h))).trans (Fw.below _ fp'' a3), hI.mem.same (by omega) ?_, ?_, ?_⟩
      · refine (key k (Array.getElem?_eq_some_iff.1 hk).1 (fun hf => ?_) (by omega)).trans hk
        obtain ⟨cs, t, e⟩ := hI.vc.cells k hf
        rw [hk] at e
        cases e
        cases ho
      · rcases hk with rfl | ⟨ad, e1, rfl⟩
        · exact (key _ (by omega) (hcell _ (by omega) (by omega)) (by omega)).trans e
        · cases e1
          exact (key pb (by omega) (hcell _ (by omega) (by omega)) (by omega)).trans e
      · rintro k (rfl | rfl | rfl | rfl | ⟨ad, e1, rfl⟩)
        · exact key _ (by omega) (hcell _ (by omega) (by omega)) (by omega)
        · exact key _ (by omega) (hcell _ (by omega) (by omega)) (by omega)
        · exact key _ (by omega) (hcell _ (by omega) (by omega)) (by omega)
        · exact key _ (by omega) (hcell _ (by omega) (by omega)) (by omega)
        · cases e1
          exact key pb (by omega) (hcell _ (by omega) (by omega)) (by omega)
      · exact a2.k _ (by omega) (hcell _ (by omega) (by omega))
      · exact a2.k _ (by omega) (hcell _ (by omega) (by omega))⟩
    have cS : W.cell? ⟨S, 0, none⟩ = some (.pointer (some ⟨V, 0, none⟩)) := by rw [cell_of_row _ _ _ _ _ _ hI.mem.box]; rfl
    have cK : W.cell? ⟨Sk, 0, none⟩ = some (.map (some kb)) := by rw [cell_of_row _ _ _ _ _ _ hI.mem.bk]; rfl
    have hLd2 : (L.drop 1)[(⟨j, hj⟩ : Fin (L.drop 1).length)] = ((itm v.n (j + 1) (q / 4 ^ (j + 1)) : Nat) : Int) := hLd
    rw [hLd2]
    have HI : Box _ := ⟨hI⟩
    have HST : Box _ := ⟨hst⟩
    have HCN : Box _ := ⟨CN⟩
    generalize itm v.n (j + 1) (q / 4 ^ (j + 1)) = it at *
    clear hI hst CN hcell hlp hr hlt hfd hq1 hq2 hq3 hq4 hLd hLd2 hT hpl bk4 HI4 hs0
    simp only [List.setIfInBounds_toArray, List.set_cons_succ, List.set_cons_zero]
    by_cases hz0 : z.2.1 = 0
    · have HND : Box (Calls Tryz.prog 42 #[.pointer (some ⟨V, 0, none⟩), .map (some kb), .int .i64 (it : Int)] W fun e w' => e = .returned (.tuple #[.agg (na (ofN z.2.2 4)), .int .i64 0]) ∧ ∃ fp'', VC w0 w' V D fp'' v z.1 sa sc ∧ Fw (fun k => k = kb) W w' fp' fp'' ∧ Mp w' kb (fputs v.n j (q / 4 ^ (j + 1)) (ofN z.2.2 4) g (fr (chn v.n j (q / 4 ^ (j + 1))))) ∧ OkN (ofN z.2.2 4)) := ⟨HCN.out.mono (fun e w' h => by
        obtain ⟨fp'', a1, a2, ⟨h1, _⟩ | ⟨_, h2, h3, h4⟩⟩ := h
        · exact absurd hz0 h1
        · exact ⟨h2, fp'', a1, a2, h3, h4⟩)⟩
      obtain ⟨N, hN⟩ : ∃ N, ofN z.2.2 4 = N := ⟨_, rfl⟩
      rw [hN] at HND HST
      have HL4 : Box (N.length = 4) := ⟨by rw [← hN]; exact len_ofN4 _⟩
      clear HCN hN
      gi_wp2_with (first
        | (refine ⟨trivial, ?_⟩; gi_at_call 42; refine (CallsIn.inRound lp (callsIn_wide.2 HND.out)).mono ?_; rintro e x5 ⟨rfl, fp'', a1, a2, a3, a4⟩; have H5 : Box (VC w0 x5 V D fp'' v z.1 sa sc ∧ Fw (fun k => k = kb) W x5 fp' fp'' ∧ Mp x5 kb (fputs v.n j (q / 4 ^ (j + 1)) N g (fr (chn v.n j (q / 4 ^ (j + 1))))) ∧ OkN N) := ⟨a1, a2, a3, a4⟩; clear a1 a2 a3 a4; have HLN : Box _ := ⟨Disk.laid_new x5 (na zn) 107 (nc N) (by rw [size_na okN_zn rfl, len_nc H5.out.2.2.2, HL4.out])⟩; have HTH : Box ((x5.alloc (.cells (na zn) 107)).there x5.heap.size 0 (na N).size) := ⟨there_row (al_at rfl) (by rw [size_na H5.out.2.2.2 HL4.out, size_na okN_zn rfl]; omega)⟩; have HSN : Box ((Tryz.prog.info? 107).map (·.size) = some (na N).size) := ⟨by rw [size_na H5.out.2.2.2 HL4.out]; exact infoN⟩)
        | (refine atAllocIn 107 ?_; refine Disk.wpListIn_zero rfl 107 rfl (na zn) zeroN ?_)
        | (refine atStoreIn 107 ?_; refine Disk.wpListIn_put rfl 107 _ _ rfl x5.heap.size 0 (na N) rfl rfl HTH.out HSN.out (all_na N) ?_))
      obtain ⟨k1, k2, k3, k4, k5, k6, k7⟩ := HMB.out x5 fp'' _ H5.out.1 H5.out.2.1 HLN.out.1
      refine ⟨k1, k2, ?_, fp'', fputs v.n j (q / 4 ^ (j + 1)) N g (fr (chn v.n j (q / 4 ^ (j + 1)))), ?_⟩
      · rw [HST.out, if_neg (by simpa using hz0)]
      · rw [HST.out, if_neg (by simpa using hz0)]
        exact ⟨k3, H5.out.2.2.1.same (HLN.out.1.block kb H5.out.2.2.1.lt), relF_puts _ _ _ _ _ _ _ HI.out.rel, okF_puts _ _ _ _ H5.out.2.2.2 _ _ HI.out.okf, k4, k5⟩
    · have HND : Box (Calls Tryz.prog 42 #[.pointer (some ⟨V, 0, none⟩), .map (some kb), .int .i64 (it : Int)] W fun e w' => e = .returned (.tuple #[.agg (na zn), .int .i64 z.2.1]) ∧ ∃ fp'', VC w0 w' V D fp'' v z.1 sa sc ∧ Fw (fun k => k = kb) W w' fp' fp'' ∧ Mp w' kb g) := ⟨HCN.out.mono (fun e w' h => by
        obtain ⟨fp'', a1, a2, ⟨_, h2, h3⟩ | ⟨h1, _⟩⟩ := h
        · exact ⟨h2, fp'', a1, a2, h3⟩
        · exact absurd h1 hz0)⟩
      have hzb : (z.2.1 == 0) = false := by simpa using hz0
      clear HCN
      gi_wp2_with (first
        | (refine ⟨trivial, ?_⟩; gi_at_call 42; refine (CallsIn.inRound lp (callsIn_wide.2 HND.out)).mono ?_; rintro e x5 ⟨rfl, fp'', a1, a2, a3⟩; have H5 : Box (VC w0 x5 V D fp'' v z.1 sa sc ∧ Fw (fun k => k = kb) W x5 fp' fp'' ∧ Mp x5 kb g) := ⟨a1, a2, a3⟩; clear a1 a2 a3; have HLN : Box _ := ⟨Disk.laid_new x5 (na zn) 107 (nc zn) (by rw [size_na okN_zn rfl, len_nc okN_zn]; rfl)⟩; have HTH : Box ((x5.alloc (.cells (na zn) 107)).there x5.heap.size 0 (na zn).size) := ⟨there_row (al_at rfl) (by rw [size_na okN_zn rfl]; omega)⟩; have HSN : Box ((Tryz.prog.info? 107).map (·.size) = some (na zn).size) := ⟨by rw [size_na okN_zn rfl]; exact infoN⟩)
        | (refine atAllocIn 107 ?_; refine Disk.wpListIn_zero rfl 107 rfl (na zn) zeroN ?_)
        | (refine atStoreIn 107 ?_; refine Disk.wpListIn_put rfl 107 _ _ rfl x5.heap.size 0 (na zn) rfl rfl HTH.out HSN.out (all_na zn) ?_; obtain ⟨x6, hx6⟩ : ∃ x6, (x5.alloc (.cells (na zn) 107)).setCells x5.heap.size 0 (na zn).toList = x6 := ⟨_, rfl⟩; rw [hx6]; have H6 : Box _ := ⟨HMB.out x5 fp'' x6 H5.out.1 H5.out.2.1 (by rw [← hx6]; exact HLN.out.1)⟩; have HB6 : Box (Below x5.heap.size x5 x6) := ⟨by rw [← hx6]; exact HLN.out.1⟩; have d1 : x6.cell? ⟨S + 1, 0, none⟩ = some (.slice none 0 0) := (by rw [cell_of_row _ _ _ _ _ _ H6.out.2.2.2.2.1.r1]; rfl); have d2 : x6.cell? ⟨S + 2, 0, none⟩ = some (.int .i64 0) := (by rw [cell_of_row _ _ _ _ _ _ H6.out.2.2.2.2.1.r2]; rfl); have d3 : x6.frozen? ⟨S + 1, 0, none⟩ = false := frozen_of_row _ _ _ _ _ H6.out.2.2.2.2.1.r1; have d4 : x6.frozen? ⟨S + 2, 0, none⟩ = false := frozen_of_row _ _ _ _ _ H6.out.2.2.2.2.1.r2; clear hx6))
      obtain ⟨k1, k2, k3, k4, k5, k6, k7⟩ := H6.out
      have hn := HNN.out
      have hC := HC.out.1
      have hSN := HN.out
      obtain ⟨s1, s2, s3, s4, s5⟩ := two_set (a := .slice none 0 0) (b := .int .i64 z.2.1) k5.r1 k5.r2
      have hI6 : RdI w0 x4 V D fp v sa sc kb S Sk (some ⟨pb, po, none⟩) len L z.1 s.2.2 (.slice none 0 0) (.int .i64 0) x6 fp'' g := ⟨k3, H5.out.2.2.same (HB6.out.block kb H5.out.2.2.lt), HI.out.rel, HI.out.okf, k4, k5⟩
      have hI7 := rdI_set hI6 (.slice none 0 0) (.int .i64 z.2.1) (by have := hC.lt; omega) (fun ad e => by have := shp_nb hC ad e; omega) (by omega) k6 k7 (by omega) (by omega) (fun ad e => by cases e; show S + 2 < pb; omega)
      refine ⟨⟨by rw [s4]; exact k1.size, fun k o hB hk ho => (s3 k (by omega) (by omega)).trans (k1.same k o hB hk ho)⟩, rfl, ?_, fp'', g, ?_⟩
      · rw [HST.out, if_pos hz0]; exact hz0
      · rw [HST.out, if_pos hz0]; exact hI7
  case done =>
    rintro Dd ys W hD rfl ⟨hs0, fp', g, hI⟩ hK
    rename_i KK ax
    obtain ⟨s, hs⟩ : ∃ s, (cam (L.drop 1).length (L.drop 1).length (Nat.le_refl _)).foldl (fun s j => rdSt v.key v.n q s j.val) (d, 0, F0 v.n v.top) = s := ⟨_, rfl⟩
    have hfd := fold_disk v.key v.n q (L.drop 1).length (cam (L.drop 1).length (L.drop 1).length (Nat.le_refl _)) (d, 0, F0 v.n v.top)
    have hrm := rdM_cam v.key v.n q (L.drop 1).length (d, 0, F0 v.n v.top) (L.drop 1).length (Nat.le_refl _)
    rw [hs] at hs0 hI hfd hrm
    rw [Nat.sub_self, rdM] at hrm
    obtain ⟨hq1, hq2, hq3, hq4⟩ := HC.out
    have hT := HT.out
    have hrd := readM_rd v.key v.n q hq2 (topL v.n) d (F0 v.n v.top)
    rw [hLL3] at hrm
    rw [quart_top v.n q hT.2.2.2.1 hT.2.2.2.2 hq2, ← hrm, if_neg (by simpa using hs0)] at hrd
    have hF0 : F0 v.n v.top (itm v.n (topL v.n) 0) = v.top := by simp [F0]
    rw [hF0] at hrd
    obtain ⟨z, hz⟩ : ∃ z, getM (Yk v.key) Xd v.n s.1 0 q (s.2.2 (itm v.n 0 q)) = z := ⟨_, rfl⟩
    rw [hz] at hrd
    obtain ⟨it, hit⟩ : ∃ it, itm v.n 0 q = it := ⟨_, rfl⟩
    obtain ⟨r, hr⟩ : ∃ r, s.2.2 (itm v.n 0 q) = r := ⟨_, rfl⟩
    have hcl : (cam (L.drop 1).length (L.drop 1).length (Nat.le_refl _)).length = (L.drop 1).length := cam_length _ _ _
    have HGT : Box (∀ wd, wd = W.drew → Calls Tryz.prog 43 #[.pointer (some ⟨V, 0, none⟩), .int .i64 (it : Int), .agg (ra r)] wd fun e x => ∃ fp2 a2, VC w0 x V D fp2 v z.1 sa sc ∧ Fw No wd x fp' fp2 ∧ e = .returned (.tuple #[.slice a2 z.2.2.length z.2.2.length, .int .i64 z.2.1]) ∧ Bytes x a2 z.2.2.length z.2.2 ∧ ∀ ad, a2 = some ad → ¬ fp2 ad.block ∧ W.heap.size ≤ ad.block) := ⟨fun wd hwd => by
      have h9 : (s.2.2 (itm v.n 0 q)).s = 0 := by
        rw [← hs]
        exact fold_zero v.key v.n q _ _ (d, 0, F0 v.n v.top) (f0_zero v.n v.top HZT.out) _
      have hzz : z = (s.1, 0, y160) := by rw [← hz, getM, if_pos h9]
      have := get_z (hwd ▸ hI.vc.drew) (itm v.n 0 q : Nat) (s.2.2 (itm v.n 0 q)) (hI.okf _) h9
      rw [← hzz, hr, hit] at this
      subst hwd
      exact this⟩
    have hn := HNN.out
    have hcell : ∀ k, S ≤ k → k < x4.heap.size → ¬ fp' k := fun k h1 h2 => hI.fw.k k h2 (HFS.out k h1)
    obtain ⟨pb', po', epa, hpl, hpc⟩ := hI.mem.pth.2 (by omega)
    have hc0 := hpc 0 (by omega)
    cases epa
    have hit0 : L.getD 0 0 = (it : Int) := by rw [← hit]; exact HLL.out.2.2.2
    rw [Nat.add_zero, hit0] at hc0
    have HSC : Box (∀ X Y : World, (X.cell? ⟨S, 0, none⟩ = some (.pointer (some ⟨V, 0, none⟩)) ∧ X.cell? ⟨Sk, 0, none⟩ = some (.map (some kb)) ∧ X.cell? ⟨pb, po, none⟩ = some (.int .i64 (it : Int)) ∧ Mp X kb g) → (∀ k, k ≠ S + 1 ∧ k ≠ S + 2 → Y.heap[k]? = X.heap[k]?) → Y.cell? ⟨S, 0, none⟩ = some (.pointer (some ⟨V, 0, none⟩)) ∧ Y.cell? ⟨Sk, 0, none⟩ = some (.map (some kb)) ∧ Y.cell? ⟨pb, po, none⟩ = some (.int .i64 (it : Int)) ∧ Mp Y kb g) := ⟨fun X Y h hs => ⟨(World.cell?_of_block (hs S (by omega))).trans h.1, (World.cell?_of_block (hs Sk (by omega))).trans h.2.1, (World.cell?_of_block (hs pb (by omega))).trans h.2.2.1, h.2.2.2.same (hs kb (by omega))⟩⟩
    have HSS : Box (W.drew.cell? ⟨S, 0, none⟩ = some (.pointer (some ⟨V, 0, none⟩)) ∧ W.drew.cell? ⟨Sk, 0, none⟩ = some (.map (some kb)) ∧ W.drew.cell? ⟨pb, po, none⟩ = some (.int .i64 (it : Int)) ∧ Mp W.drew kb g) := ⟨by show W.cell? _ = _; rw [cell_of_row _ _ _ _ _ _ hI.mem.box]; rfl, by show W.cell? _ = _; rw [cell_of_row _ _ _ _ _ _ hI.mem.bk]; rfl, hc0, hI.mp.same rfl⟩
    have HST : Box (∀ wd x fp2, wd = W.drew → VC w0 x V D fp2 v z.1 sa sc → Fw No wd x fp' fp2 → (x.cell? ⟨S, 0, none⟩ = some (.pointer (some ⟨V, 0, none⟩)) ∧ x.cell? ⟨Sk, 0, none⟩ = some (.map (some kb)) ∧ x.cell? ⟨pb, po, none⟩ = some (.int .i64 (it : Int)) ∧ Mp x kb g) ∧ x.heap[S + 1]? = some (.cells #[.slice none 0 0] 38 (0, 0)) ∧ x.heap[S + 2]? = some (.cells #[.int .i64 0] 28 (0, 0))) := ⟨fun wd x fp2 hwd c1 c2 => by
      subst hwd
      have h4 := hI.fw.size
      have key : ∀ k, S ≤ k → k < x4.heap.size → x.heap[k]? = W.heap[k]? := fun k h1 h2 => c2.block (show k < W.drew.heap.size from by show k < W.heap.size; omega) (hcell k h1 h2) id
      refine ⟨⟨(World.cell?_of_block (key S (by omega) (by omega))).trans HSS.out.1, (World.cell?_of_block (key Sk (by omega) (by omega))).trans HSS.out.2.1, (World.cell?_of_block (key pb (by omega) (by omega))).trans HSS.out.2.2.1, hI.mp.same (key kb (by omega) (by omega))⟩, (key _ (by omega) (by omega)).trans hI.mem.r1, (key _ (by omega) (by omega)).trans hI.mem.r2⟩⟩
    have HLK : Box ((g (it : Int)).getD (.agg (ra zr)) = .agg (ra r)) := ⟨by rw [← hr, ← hit]; exact hI.rel _⟩
    have HFIN : Box (∀ x fp2 a2, VC w0 x V D fp2 v z.1 sa sc → Fw No W.drew x fp' fp2 → (∀ ad, a2 = some ad → ¬ fp2 ad.block ∧ W.heap.size ≤ ad.block) → Bytes x a2 z.2.2.length z.2.2 → x.heap[S + 1]? = some (.cells #[.slice none 0 0] 38 (0, 0)) → x.heap[S + 2]? = some (.cells #[.int .i64 0] 28 (0, 0)) → ∀ Y, Y = ((x.setCell ⟨S + 1, 0, none⟩ (.slice a2 z.2.2.length z.2.2.length)).setCell ⟨S + 1 + 1, 0, none⟩ (.int .i64 z.2.1)) → Y.heap[Dd]? = some (.deferred (some [])) ∧ GetZ w0 w V D fp v sa sc z (.returned (.tuple #[.slice a2 z.2.2.length z.2.2.length, .int .i64 z.2.1])) (Y.putObj Dd (.deferred none)) ∧ (Y.putObj Dd (.deferred none)).cell? ⟨S + 1, 0, none⟩ = some (.slice a2 z.2.2.length z.2.2.length) ∧ (Y.putObj Dd (.deferred none)).cell? ⟨S + 1 + 1, 0, none⟩ = some (.int .i64 z.2.1)) := ⟨fun x fp2 a2 c1 c2 hN2 hB u1 u2 Y hY => by
      have hC := HC.out.1
      have hSN := HN.out
      have h4 := hI.fw.size
      have hsx : W.heap.size ≤ x.heap.size := c2.size
      have key : ∀ k, S ≤ k → k < x4.heap.size → x.heap[k]? = W.heap[k]? := fun k h1 h2 => c2.block (show k < W.drew.heap.size from by show k < W.heap.size; omega) (hcell k h1 h2) id
      have hnf : ∀ k, S ≤ k → k < x4.heap.size → ¬ fp2 k := fun k h1 h2 => c2.k k (show k < W.drew.heap.size from by show k < W.heap.size; omega) (hcell k h1 h2)
      have hIx : RdI w0 x4 V D fp v sa sc kb S Sk (some ⟨pb, po, none⟩) len L z.1 s.2.2 (.slice none 0 0) (.int .i64 0) x fp2 g := ⟨c1, hI.mp.same (key kb (by omega) (by omega)), hI.rel, hI.okf, (hI.fw.trans (Fw.below _ fp' (Below.refl _ _).drew)).trans (c2.wider (fun k _ h => h.elim)), ⟨(key S (by omega) (by omega)).trans hI.mem.box, u1, u2, (key Sk (by omega) (by omega)).trans hI.mem.bk, ints_same hI.mem.pth (fun ad e => by cases e; exact key pb (by omega) (by omega)) hsx⟩⟩
      have hI7 := rdI_set hIx (.slice a2 z.2.2.length z.2.2.length) (.int .i64 z.2.1) (by have := hC.lt; omega) (fun ad e => by have := shp_nb hC ad e; omega) (by omega) (hnf _ (by omega) (by omega)) (hnf _ (by omega) (by omega)) (by omega) (by omega) (fun ad e => by cases e; show S + 2 < pb; omega)
      obtain ⟨s1, s2, s3, s4, s5⟩ := two_set (a := .slice a2 z.2.2.length z.2.2.length) (b := .int .i64 z.2.1) u1 u2
      rw [← hY] at hI7 s1 s2 s3 s4 s5
      have hDn : ¬ fp' Dd := fun hf => by
        obtain ⟨cs, t, e⟩ := hI.vc.cells Dd hf
        rw [hK] at e
        cases e
      have hDx : x.heap[Dd]? = some (.deferred (some [])) := (c2.block (show Dd < W.drew.heap.size from (Array.getElem?_eq_some_iff.1 hK).1) hDn id).trans hK
      have hDy : Y.heap[Dd]? = some (.deferred (some [])) := (s3 Dd (by omega) (by omega)).trans hDx
      have hsw : w.heap.size ≤ x4.heap.size := B04.out.size
      refine ⟨hDy, ⟨fp2, a2, hI7.vc.grown (grownBy_putObj' _ Dd _) (fun k e => by cases e; exact ⟨by omega, _, hDy, rfl⟩), ?_, rfl, ?_, fun ad e => ⟨(hN2 ad e).1, by have := (hN2 ad e).2; omega⟩⟩, ?_, ?_⟩
      · exact (Fw.new ((Fw.below _ fp B04.out).trans hI7.fw) (fun k hk => by omega)).but (but_putObj Y Dd _) (by omega)
      · refine ⟨hB.1, hB.2.1, fun hp => ?_⟩
        obtain ⟨b, o, e, hlt, hc⟩ := hB.2.2 hp
        have h0 := hc 0 hp
        have n1 : b ≠ S + 1 := fun e2 => by subst e2; exact row_no u1 (by simp) _ _ h0
        have n2 : b ≠ S + 2 := fun e2 => by subst e2; exact row_no u2 (by simp) _ _ h0
        have n3 : b ≠ Dd := fun e2 => by
          subst e2
          unfold World.cell? at h0
          rw [hDx] at h0
          simp at h0
        have hq : (Y.putObj Dd (.deferred none)).heap[b]? = x.heap[b]? := (World.putObj_heap_other n3).trans (s3 b n1 n2)
        exact ⟨b, o, e, by have := (but_putObj Y Dd (.deferred none)).size; omega, fun i hi => (World.cell?_of_block (show (Y.putObj Dd (.deferred none)).heap[(⟨b, o + i, none⟩ : Addr).block]? = x.heap[(⟨b, o + i, none⟩ : Addr).block]? from hq)).trans (hc i hi)⟩
      · have := (World.putObj_heap_other (w := Y) (o := .deferred none) (show S + 1 ≠ Dd by omega)).trans s1
        rw [cell_of_row _ _ _ _ _ _ this]; rfl
      · have := (World.putObj_heap_other (w := Y) (o := .deferred none) (show S + 2 ≠ Dd by omega)).trans s2
        rw [cell_of_row _ _ _ _ _ _ this]; rfl⟩
    have HRD : Box (readM (Yk v.key) Xd v.n q (topL v.n) d v.top = z) := ⟨hrd⟩
    clear hs0 hI hfd hrm hq1 hq2 hq3 hq4 hT hrd hF0 hz hcl hpl hpc hc0 hit0 hcell hK hit hr bk4 HI4
    show KK _ _
    refine ax _ _ ?_
    clear ax
    refine wp_seq (wp_mono (Q := Exit.then _ (fun _ _ _ => False)) ?_ (fun e a w h => by cases e <;> first | exact h | exact h.elim))
    refine Disk.begin_keep (S := fun x => x.cell? ⟨S, 0, none⟩ = some (.pointer (some ⟨V, 0, none⟩)) ∧ x.cell? ⟨Sk, 0, none⟩ = some (.map (some kb)) ∧ x.cell? ⟨pb, po, none⟩ = some (.int .i64 (it : Int)) ∧ Mp x kb g) (by kernel_rfl) (fun wd hwd => ?_)
    have hS : wd.cell? ⟨S, 0, none⟩ = some (.pointer (some ⟨V, 0, none⟩)) ∧ wd.cell? ⟨Sk, 0, none⟩ = some (.map (some kb)) ∧ wd.cell? ⟨pb, po, none⟩ = some (.int .i64 (it : Int)) ∧ Mp wd kb g := by rw [hwd]; exact HSS.out
    have HWD : Box (wd = W.drew) := ⟨hwd⟩
    clear hwd
    refine take_s (i := 0) (v := .pointer (some ⟨V, 0, none⟩)) rfl (by kernel_rfl) (by kernel_rfl) (by kernel_rfl) (fun _ _ _ h => h) (by rfl) (fun w' hLat => Disk.exec_load1 31 _ _ rfl Tryz.underlying31 rfl _ rfl _ hLat.1) hS ?_
    try simp only [Act.put, List.setIfInBounds_toArray, List.set_cons_zero, List.set_cons_succ, List.getElem_toArray, List.getElem_cons_zero]
    refine take_s (i := 1) (v := ?_) rfl (by kernel_rfl) (by kernel_rfl) (by kernel_rfl) (fun _ _ _ h => h) (by rfl) ?_ hS ?_
    rotate_left
    · intro w' hLat; clear hLat; go_simp <;> with_reducible rfl
    try simp only [Act.put, List.setIfInBounds_toArray, List.set_cons_zero, List.set_cons_succ, List.getElem_toArray, List.getElem_cons_zero, List.getElem_cons_succ]
    refine take_s (i := 2) (v := .pointer (some ⟨pb, po, none⟩)) rfl (by kernel_rfl) (by kernel_rfl) (by kernel_rfl) (fun _ _ _ h => h) (by rfl) (fun w' hLat => exec_idx0 (.tmp 41) rfl pb po len pcp rfl rfl (by omega)) hS ?_
    try simp only [Act.put, List.setIfInBounds_toArray, List.set_cons_zero, List.set_cons_succ, List.getElem_toArray, List.getElem_cons_zero, List.getElem_cons_succ]
    refine take_s (i := 3) (v := .int .i64 (it : Int)) rfl (by kernel_rfl) (by kernel_rfl) (by kernel_rfl) (fun _ _ _ h => h) (by rfl) (fun w' hLat => Disk.exec_load1 3 _ _ rfl Tryz.underlying3 rfl _ rfl _ hLat.2.2.1) hS ?_
    try simp only [Act.put, List.setIfInBounds_toArray, List.set_cons_zero, List.set_cons_succ, List.getElem_toArray, List.getElem_cons_zero, List.getElem_cons_succ]
    refine take_s (i := 4) (v := .map (some kb)) rfl (by kernel_rfl) (by kernel_rfl) (by kernel_rfl) (fun _ _ _ h => h) (by rfl) (fun w' hLat => Disk.exec_load1 88 _ _ rfl Tryz.underlying88 rfl _ rfl _ hLat.2.1) hS ?_
    try simp only [Act.put, List.setIfInBounds_toArray, List.set_cons_zero, List.set_cons_succ, List.getElem_toArray, List.getElem_cons_zero, List.getElem_cons_succ]
    refine take_s (i := 5) (v := ?_) rfl (by kernel_rfl) (by kernel_rfl) (by kernel_rfl) (fun _ _ _ h => h) (by rfl) ?_ hS ?_
    rotate_left
    · intro w' hLat; clear hLat; go_simp <;> with_reducible rfl
    try simp only [Act.put, List.setIfInBounds_toArray, List.set_cons_zero, List.set_cons_succ, List.getElem_toArray, List.getElem_cons_zero, List.getElem_cons_succ]
    refine take_s (i := 6) (v := .pointer (some ⟨pb, po, none⟩)) rfl (by kernel_rfl) (by kernel_rfl) (by kernel_rfl) (fun _ _ _ h => h) (by rfl) (fun w' hLat => exec_idx0 (.tmp 45) rfl pb po len pcp rfl rfl (by omega)) hS ?_
    try simp only [Act.put, List.setIfInBounds_toArray, List.set_cons_zero, List.set_cons_succ, List.getElem_toArray, List.getElem_cons_zero, List.getElem_cons_succ]
    refine take_s (i := 7) (v := .int .i64 (it : Int)) rfl (by kernel_rfl) (by kernel_rfl) (by kernel_rfl) (fun _ _ _ h => h) (by rfl) (fun w' hLat => Disk.exec_load1 3 _ _ rfl Tryz.underlying3 rfl _ rfl _ hLat.2.2.1) hS ?_
    try simp only [Act.put, List.setIfInBounds_toArray, List.set_cons_zero, List.set_cons_succ, List.getElem_toArray, List.getElem_cons_zero, List.getElem_cons_succ]
    refine take_s (i := 8) (v := .agg (ra r)) rfl (by kernel_rfl) (by kernel_rfl) (by kernel_rfl) (fun _ _ _ h => h) (by rfl) (fun w' hLat => exec_look1 (.tmp 44) (.tmp 47) rfl Tryz.underlying88 Tryz.underlying3 (.agg (ra zr)) zeroRef kb g rfl hLat.2.2.2 it rfl _ HLK.out) hS ?_
    try simp only [Act.put, List.setIfInBounds_toArray, List.set_cons_zero, List.set_cons_succ, List.getElem_toArray, List.getElem_cons_zero, List.getElem_cons_succ]
    refine Disk.one_keep (i := 9) (by kernel_rfl) ?_
    refine Disk.keep_step rfl (by rfl) ?_
    go_simp
    refine Calls.mono (HGT.out wd HWD.out) ?_
    rintro e x ⟨fp2, a2, hx1, hx2, rfl, hB2, hN2⟩
    obtain ⟨hS2, u1, u2⟩ := HST.out wd x fp2 HWD.out hx1 hx2
    refine ⟨hS2, ?_⟩
    try simp only [Act.put, List.setIfInBounds_toArray, List.set_cons_zero, List.set_cons_succ, List.getElem_toArray, List.getElem_cons_zero, List.getElem_cons_succ]
    refine take_s (i := 10) (v := ?_) rfl (by kernel_rfl) (by kernel_rfl) (by kernel_rfl) (fun _ _ _ h => h) (by rfl) ?_ hS2 ?_
    rotate_left
    · intro w' hLat; clear hLat; go_simp <;> with_reducible rfl
    try simp only [Act.put, List.setIfInBounds_toArray, List.set_cons_zero, List.set_cons_succ, List.getElem_toArray, List.getElem_cons_zero, List.getElem_cons_succ]
    refine take_s (i := 11) (v := ?_) rfl (by kernel_rfl) (by kernel_rfl) (by kernel_rfl) (fun _ _ _ h => h) (by rfl) ?_ hS2 ?_
    rotate_left
    · intro w' hLat; clear hLat; go_simp <;> with_reducible rfl
    try simp only [Act.put, List.setIfInBounds_toArray, List.set_cons_zero, List.set_cons_succ, List.getElem_toArray, List.getElem_cons_zero, List.getElem_cons_succ]
    have uc1 : x.cell? ⟨S + 1, 0, none⟩ = some (.slice none 0 0) := by rw [cell_of_row _ _ _ _ _ _ u1]; rfl
    have uf1 : x.frozen? ⟨S + 1, 0, none⟩ = false := frozen_of_row _ _ _ _ _ u1
    obtain ⟨s1, s2, s3, s4, s5⟩ := two_set (a := .slice a2 z.2.2.length z.2.2.length) (b := .int .i64 z.2.1) u1 u2
    have e2 : (x.setCell ⟨S + 1, 0, none⟩ (.slice a2 z.2.2.length z.2.2.length)).heap[S + 1 + 1]? = some (.cells #[.int .i64 0] 28 (0, 0)) := (heap_setCell_other x ⟨S + 1, 0, none⟩ (S + 1 + 1) _ (by simp)).trans u2
    have uc2 : (x.setCell ⟨S + 1, 0, none⟩ (.slice a2 z.2.2.length z.2.2.length)).cell? ⟨S + 1 + 1, 0, none⟩ = some (.int .i64 0) := by rw [cell_of_row _ _ _ _ _ _ e2]; rfl
    have uf2 : (x.setCell ⟨S + 1, 0, none⟩ (.slice a2 z.2.2.length z.2.2.length)).frozen? ⟨S + 1 + 1, 0, none⟩ = false := frozen_of_row _ _ _ _ _ e2
    have hS3 := HSC.out _ _ hS2 (fun k h1 => heap_setCell_other x ⟨S + 1, 0, none⟩ k (.slice a2 z.2.2.length z.2.2.length) h1.1)
    have hS4 := HSC.out _ _ hS2 (fun k h1 => s3 k h1.1 h1.2)
    refine Disk.one_keep (i := 12) (by kernel_rfl) ?_
    refine Disk.keep_step rfl (by rfl) ?_
    refine Disk.wp_store_one 38 (.tmp 4) (.tmp 50) rfl (by kernel_rfl) (.slice a2 z.2.2.length z.2.2.length) rfl rfl rfl (D := S + 1) (k := 0) rfl (by rw [uc1]; rfl) uf1 ?_
    refine ⟨hS3, ?_⟩
    try simp only [Act.put, List.getElem_toArray, List.getElem_cons_zero, List.getElem_cons_succ]
    refine Disk.one_keep (i := 13) (by kernel_rfl) ?_
    refine Disk.keep_step rfl (by rfl) ?_
    refine Disk.wp_store_one 28 (.tmp 5) (.tmp 51) rfl (by kernel_rfl) (.int .i64 z.2.1) rfl rfl rfl (D := S + 1 + 1) (k := 0) rfl (by rw [uc2]; rfl) uf2 ?_
    refine ⟨hS4, ?_⟩
    refine wpAnyH_done (by kernel_rfl) ?_ _
    refine wp_ret ?_
    obtain ⟨f1, f2, f3, f4⟩ := HFIN.out x fp2 a2 hx1 (HWD.out ▸ hx2) hN2 hB2 u1 u2 _ rfl
    refine ret_mark Dd ?_ f1 (.tuple #[.slice a2 z.2.2.length z.2.2.length, .int .i64 z.2.1]) ?_ ?_
    · rfl
    · exact results_CC (t := 4) (u := 5) rfl _ _ (S + 1) (S + 1 + 1) _ _ _ _ Tryz.underlying38 rfl Tryz.underlying28 rfl (by rfl) (by rfl) f3 f4
    · exact (show ∀ q', q' = z → GetZ w0 w V D fp v sa sc q' (.returned (.tuple #[.slice a2 z.2.2.length z.2.2.length, .int .i64 z.2.1])) _ from fun q' e => by rw [e]; exact f2) _ HRD.out
  case stop =>
    rintro Dd c pre W hD ⟨k, hk, rfl⟩ ⟨rfl, hs0, fp', g, hI⟩ hK
    rename_i KK ax
    clear ax
    obtain ⟨s, hs⟩ : ∃ s, (cam (L.drop 1).length k hk).foldl (fun s j => rdSt v.key v.n q s j.val) (d, 0, F0 v.n v.top) = s := ⟨_, rfl⟩
    have hrm := rdM_cam v.key v.n q (L.drop 1).length (d, 0, F0 v.n v.top) k hk
    rw [hs] at hs0 hI hrm
    rw [rdM_err v.key v.n q _ s hs0, hLL3] at hrm
    obtain ⟨hq1, hq2, hq3, hq4⟩ := HC.out
    have hT := HT.out
    have hn := HNN.out
    have hrd := readM_rd v.key v.n q hq2 (topL v.n) d (F0 v.n v.top)
    rw [quart_top v.n q hT.2.2.2.1 hT.2.2.2.2 hq2, ← hrm, if_pos hs0] at hrd
    have hF0 : F0 v.n v.top (itm v.n (topL v.n) 0) = v.top := by simp [F0]
    rw [hF0] at hrd
    have hsw : w.heap.size ≤ x4.heap.size := B04.out.size
    have hSN := HN.out
    refine wpIn_ret ?_
    refine ret_mark Dd ?_ hK (.tuple #[.slice none 0 0, .int .i64 s.2.1]) ?_ ?_
    · rfl
    · refine results_CC (t := 4) (u := 5) rfl _ _ (S + 1) (S + 1 + 1) _ _ _ _ Tryz.underlying38 rfl Tryz.underlying28 rfl (by rfl) (by rfl) ?_ ?_
      · have := (World.putObj_heap_other (w := W) (o := .deferred none) (show S + 1 ≠ Dd by omega)).trans hI.mem.r1
        rw [cell_of_row _ _ _ _ _ _ this]; rfl
      · have := (World.putObj_heap_other (w := W) (o := .deferred none) (show S + 2 ≠ Dd by omega)).trans hI.mem.r2
        rw [cell_of_row _ _ _ _ _ _ this]; rfl
    · have hg : GetZ w0 w V D fp v sa sc (s.1, s.2.1, []) (.returned (.tuple #[.slice none 0 0, .int .i64 s.2.1])) (W.putObj Dd (.deferred none)) := ⟨fp', none, hI.vc.grown (grownBy_putObj' _ Dd _) (fun k e => by cases e; exact ⟨by omega, _, hK, rfl⟩), (Fw.new ((Fw.below _ fp B04.out).trans hI.fw) (fun k hk => by omega)).but (but_putObj W Dd _) (by omega), rfl, bytes_none _, fun ad e => nomatch e⟩
      exact (show ∀ q', q' = (s.1, s.2.1, []) → GetZ w0 w V D fp v sa sc q' (.returned (.tuple #[.slice none 0 0, .int .i64 s.2.1])) _ from fun q' e => by rw [e]; exact hg) _ hrd
end Go.Proofs.YthbbijaikcmaeaaGreatDoor
