/-
  What slices.Backward hands on of a row of ints, from the last one on; nodes got one behind the other, told plainly. And what follows it.
-/
import Derived.Test.YthbbijaikcmaeaaGreatDoorX24
namespace Go.Proofs.YthbbijaikcmaeaaGreatDoor
set_option maxRecDepth 100000
set_option linter.unusedVariables false
set_option maxRecDepth 100000
open Go.RowKit Go.Shelf Plain Go.Proofs.YthbbijaikcmaeaaGreatDoor.Shap.Plain
attribute [local go_sem] Oper.semAt_some
def cam (m : Nat) : (k : Nat) → k ≤ m → List (Fin m)
  | 0, _ => []
  | k + 1, h => cam m k (by omega) ++ [⟨m - 1 - k, by omega⟩]
theorem cam_length (m : Nat) : ∀ k h, (cam m k h).length = k
  | 0, _ => rfl
  | k + 1, h => by rw [cam, List.length_append, cam_length m k]; rfl
def encI (L : List Int) (j : Fin L.length) : Array Value := #[.int .i64 (j.val : Int), .int .i64 L[j]]
structure Bk (W : World) (Bs : Nat) (a : Option Addr) (cap : Nat) (L : List Int) : Prop where
  box : W.heap[Bs]? = some (.cells #[.slice a L.length cap] 50 (0, 0))
  ints : Shap.Ints W a L.length L
def bkS (Bs : Nat) (a : Option Addr) (k : Nat) : Prop := k = Bs ∨ ∃ ad, a = some ad ∧ k = ad.block
theorem Bk.kps {W W' : World} {Bs : Nat} {a : Option Addr} {cap : Nat} {L : List Int} {S : Nat → Prop} (h : Bk W Bs a cap L) (hk : Kps S W W') (hS : ∀ k, bkS Bs a k → S k) : Bk W' Bs a cap L :=
  ⟨hk.block (hS _ (.inl rfl)) h.box, hk.ints h.ints (fun ad e => hS _ (.inr ⟨ad, e, rfl⟩))⟩
theorem Bk.below {W W' : World} {Bs : Nat} {a : Option Addr} {cap : Nat} {L : List Int} (h : Bk W Bs a cap L) (hb : Below W.heap.size W W') : Bk W' Bs a cap L := h.kps (S := fun _ => True) (Kps.below hb) (fun _ _ => trivial)
set_option maxHeartbeats 2000000 in
theorem backI_in (n : Nat) (hn : 1 ≤ n) (lo Bs cap : Nat) (a : Option Addr) (L : List Int) (hreach : L.length < 1000000) (S : Nat → Prop) (hS : ∀ k, bkS Bs a k → S k) (J Jx : List (Fin L.length) → World → Prop)
    (hY : ∀ pre x W, J pre W → pre.length < L.length → YieldAt Fence.wide (n - 1) Tryz.prog lo (encI L x) W fun e W' =>
      (e = .returned (.bool true) ∧ J (pre ++ [x]) W' ∧ Kps S W W') ∨ (e = .returned (.bool false) ∧ Jx (pre ++ [x]) W'))
    (W : World) (hB : Bk W Bs a cap L) (h0 : J [] W) :
    CallsIn Fence.wide n Tryz.prog 61 #[.func (.yield lo) #[] #[], .pointer (some ⟨Bs, 0, none⟩)] W fun e W' => (∃ v, e = .returned v) ∧
      ((∃ ys, ys = cam L.length L.length (Nat.le_refl _) ∧ J ys W') ∨ (∃ pre, (∃ k h, pre = cam L.length k h) ∧ Jx pre W')) := by
  refine callsIn_of_wp Tryz.func61 rfl trivial ?_ rfl
  simp only [Tryz.ntmps61, List.size_toArray, List.length_cons, List.length_nil, Nat.reduceAdd, Nat.reduceSub, Array.replicate_succ, Array.replicate_zero, List.push_toArray, List.append_toArray, List.nil_append, List.cons_append]
  have hw1 : IntKind.i64.wrap ((L.length : Int) - 1) = (L.length : Int) - 1 := by rw [IntKind.wrap_i64]; omega
  have hBs : W.cell? ⟨Bs, 0, none⟩ = some (.slice a L.length cap) := by rw [cell_of_row _ _ _ _ _ _ hB.box]; rfl
  have HB : Box (Bk W Bs a cap L) := ⟨hB⟩
  have HY : Box _ := ⟨hY⟩
  have H0 : Box (J [] W) := ⟨h0⟩
  have HS : Box (∀ k, bkS Bs a k → S k) := ⟨hS⟩
  clear hB hY h0 hS
  gi_wp2
  gi_loopw [3] (fun i wr => ∃ k : Nat, ∃ h : k ≤ L.length, i = .int .i64 ((L.length : Int) - 1 - k) ∧ Box (J (cam L.length k h) wr) ∧ Box (Bk wr Bs a cap L)) (fun i _ => (intOf i + 1).toNat)
  case atStart => exact ⟨0, Nat.zero_le _, by simp, H0, HB⟩
  case round =>
    clear hBs H0 HB
    obtain ⟨k, hk, rfl, hJs, hBk⟩ := hrel
    have hBs' : wr.cell? ⟨Bs, 0, none⟩ = some (.slice a L.length cap) := by rw [cell_of_row _ _ _ _ _ _ hBk.out.box]; rfl
    by_cases hlt2 : k < L.length
    · have hq : L.length - 1 - k < L.length := by omega
      obtain ⟨b, o, e, hbl, hcell⟩ := hBk.out.ints.2 (by omega)
      subst e
      have hc := hcell (L.length - 1 - k) hq
      have hgd : L.getD (L.length - 1 - k) 0 = L[L.length - 1 - k] := by simp [hq]
      rw [hgd] at hc
      obtain ⟨fn, tmps, assign, body, hy, hR⟩ := HY.out _ ⟨L.length - 1 - k, hq⟩ wr hJs.out (by rw [cam_length]; exact hlt2)
      have hy2 : (Instr.yield lo #[Value.int .i64 ((L.length - 1 - k : Nat) : Int), .int .i64 L[L.length - 1 - k]]).run Tryz.prog wr = .ok (.round lo fn tmps assign body) wr := hy
      rw [show ((L.length : Int) - 1 - k) = ((L.length - 1 - k : Nat) : Int) by omega]
      have HR : Box (RoundIn Fence.wide (n - 1) Tryz.prog lo fn tmps assign body wr fun e W' => (e = .returned (.bool true) ∧ J (cam L.length (k + 1) hlt2) W' ∧ Kps S wr W') ∨ (e = .returned (.bool false) ∧ Jx (cam L.length (k + 1) hlt2) W')) := ⟨hR⟩
      have hqe : Box (L.length - 1 - k + k + 1 = L.length) := ⟨by omega⟩
      have hw2 : IntKind.i64.wrap (((L.length - 1 - k : Nat) : Int) - 1) = ((L.length - 1 - k : Nat) : Int) - 1 := by rw [IntKind.wrap_i64]; omega
      clear hy hR hgd hcell hbl hJs
      generalize L[L.length - 1 - k] = z at hy2 hc
      generalize hqq : L.length - 1 - k = q at *
      have hql : q < L.length := by omega
      clear hqq
      gi_wp2
      refine HR.out.mono ?_
      rintro e W3 (⟨rfl, hJ3, hk3⟩ | ⟨rfl, hJx3⟩)
      · have HJ3 : Box (J (cam L.length (k + 1) hlt2) W3 ∧ Bk W3 Bs (some ⟨b, o, none⟩) cap L) := ⟨hJ3, hBk.out.kps hk3 HS.out⟩
        clear hJ3 hk3
        gi_wp2
        go_roundw
        case rel => exact ⟨k + 1, hlt2, by have := hqe.out; congr 1; omega, ⟨HJ3.out.1⟩, ⟨HJ3.out.2⟩⟩
        case measure => simp [intOf]
      · have HJ3 : Box (Jx (cam L.length (k + 1) hlt2) W3) := ⟨hJx3⟩
        clear hJx3
        gi_wp2
        refine bodyPost_ret (results_none rfl _ _ _) rfl ?_
        exact ⟨⟨_, rfl⟩, .inr ⟨_, ⟨k + 1, hlt2, rfl⟩, HJ3.out⟩⟩
    · obtain rfl : k = L.length := by omega
      have hneg : decide (0 ≤ (L.length : Int) - 1 - L.length) = false := by simp; omega
      gi_wp2
      go_end0
      exact ⟨⟨_, rfl⟩, .inl ⟨_, rfl, hJs.out⟩⟩
theorem backI_stops (n : Nat) (hn : 1 ≤ n) (Bs cap : Nat) (a : Option Addr) (L : List Int) (hreach : L.length < 1000000) (S : Nat → Prop) (hS : ∀ k, bkS Bs a k → S k) (w : World) (hB : Bk w Bs a cap L) :
    SeqStopsK Fence.wide n Tryz.prog 61 #[.pointer (some ⟨Bs, 0, none⟩)] (encI L) (Kps S) (fun ys => ys = cam L.length L.length (Nat.le_refl _)) (fun pre => ∃ k h, pre = cam L.length k h) L.length w := fun lo J Jx W hW _ _ hY h0 =>
  backI_in n hn lo Bs cap a L hreach S hS J Jx hY W (hB.below hW) h0
theorem backI_v (a : Option Addr) (len cap : Nat) (x : World) : Calls Tryz.prog 41 #[.slice a len cap] x fun e w' =>
    e = .returned (.func (.func 61) #[] #[.pointer (some ⟨x.heap.size, 0, none⟩)]) ∧ w' = x.alloc (.cells #[.slice a len cap] 50) := by
  go_enter Tryz.func41, Tryz.ntmps41
  go_wp2
  go_ret
  simp
def RelF (g : Int → Option Value) (F : Nat → Rf) : Prop := ∀ i : Nat, (g (i : Int)).getD (.agg (ra zr)) = .agg (ra (F i))
def Fput (F : Nat → Rf) (i : Nat) (r : Rf) : Nat → Rf := fun j => if j = i then r else F j
def Fputs (n l i : Nat) (N : List Rf) (F : Nat → Rf) (ks : List (Fin 4)) : Nat → Rf := ks.foldl (fun G k => Fput G (itm n l (4 * i + k.val)) (N.getD k.val zr)) F
theorem relF_put {g : Int → Option Value} {F : Nat → Rf} (h : RelF g F) (i : Nat) (r : Rf) : RelF (fput g (i : Int) (.agg (ra r))) (Fput F i r) := fun j => by
  unfold fput Fput
  by_cases e : j = i
  · subst e; simp
  · rw [if_neg (by omega), if_neg e]; exact h j
theorem relF_puts (n l i : Nat) (N : List Rf) : ∀ (ks : List (Fin 4)) (g : Int → Option Value) (F : Nat → Rf), RelF g F → RelF (fputs n l i N g ks) (Fputs n l i N F ks)
  | [], g, F, h => h
  | k :: ks, g, F, h => relF_puts n l i N ks _ _ (relF_put h _ _)
theorem okF_puts (n l i : Nat) (N : List Rf) (hN : OkN N) : ∀ (ks : List (Fin 4)) (F : Nat → Rf), (∀ j, OkR (F j)) → ∀ j, OkR (Fputs n l i N F ks j)
  | [], F, h, j => h j
  | k :: ks, F, h, j => okF_puts n l i N hN ks _ (fun q => by unfold Fput; dsimp only; split; exact getD_ok hN _; exact h q) j
noncomputable def ndM (K : List Int) (n : Nat) (s : Disk.Dk × Int × (Nat → Rf)) (l i : Nat) : Disk.Dk × Int × (Nat → Rf) :=
  if (getM (Yk K) Xd n s.1 (l + 1) i (s.2.2 (itm n (l + 1) i))).2.1 ≠ 0 then ((getM (Yk K) Xd n s.1 (l + 1) i (s.2.2 (itm n (l + 1) i))).1, (getM (Yk K) Xd n s.1 (l + 1) i (s.2.2 (itm n (l + 1) i))).2.1, s.2.2)
  else ((getM (Yk K) Xd n s.1 (l + 1) i (s.2.2 (itm n (l + 1) i))).1, 0, Fputs n l i (ofN (getM (Yk K) Xd n s.1 (l + 1) i (s.2.2 (itm n (l + 1) i))).2.2 4) s.2.2 (fr (chn n l i)))
theorem getM_disk (K : List Int) (n : Nat) (d : Disk.Dk) (l i : Nat) (r : Rf) : (getM (Yk K) Xd n d l i r).1.uw = d.uw ∧ (getM (Yk K) Xd n d l i r).1.n = d.n ∧ (getM (Yk K) Xd n d l i r).1.ops.length ≤ d.ops.length + 1 ∧ (getM (Yk K) Xd n d l i r).1.st = d.st ∧ (getM (Yk K) Xd n d l i r).1.left = d.left := by
  have key : (getM (Yk K) Xd n d l i r).1 = d ∨ (getM (Yk K) Xd n d l i r).1 = (Xd.rd d (pc n l i r)).1 := by
    unfold getM
    split
    · exact .inl rfl
    · split
      · exact .inr rfl
      · split
        · split
          · split <;> exact .inr rfl
          · exact .inr rfl
        · exact .inr rfl
  rcases key with h | h
  · rw [h]; exact ⟨rfl, rfl, by omega, rfl, rfl⟩
  · rw [h]
    cases hd : d.down with
    | true => simp [Xd, hd]
    | false => simp [Xd, hd, Disk.rdOk]
end Go.Proofs.YthbbijaikcmaeaaGreatDoor
namespace Go.Proofs.YthbbijaikcmaeaaGreatDoor
set_option maxRecDepth 100000
set_option linter.unusedVariables false
open Go.RowKit Go.Shelf Plain Go.Proofs.YthbbijaikcmaeaaGreatDoor.Shap.Plain
theorem Fputs_snoc (n l i : Nat) (N : List Rf) (F : Nat → Rf) (ks : List (Fin 4)) (k : Fin 4) : Fputs n l i N F (ks ++ [k]) = Fput (Fputs n l i N F ks) (itm n l (4 * i + k.val)) (N.getD k.val zr) := by simp [Fputs]
theorem Fputs_fr (n l i : Nat) (N : List Rf) (F : Nat → Rf) : ∀ m, m ≤ 4 → (∀ k, k < m → Fputs n l i N F (fr m) (itm n l (4 * i + k)) = N.getD k zr) ∧ ∀ x, (∀ k, k < m → x ≠ itm n l (4 * i + k)) → Fputs n l i N F (fr m) x = F x
  | 0, _ => ⟨fun k hk => by omega, fun x _ => rfl⟩
  | m + 1, h => by
    obtain ⟨h1, h2⟩ := Fputs_fr n l i N F m (by omega)
    have e : (f4 m).val = m := f4_val m (by omega)
    rw [fr_succ, Fputs_snoc, e]
    refine ⟨fun k hk => ?_, fun x hx => ?_⟩
    · unfold Fput
      by_cases hkm : k = m
      · subst hkm; simp
      · rw [if_neg (by unfold itm; omega)]
        exact h1 k (by omega)
    · unfold Fput
      rw [if_neg (hx m (by omega))]
      exact h2 x (fun k hk => hx k (by omega))
theorem chn_le (n l i : Nat) : chn n l i ≤ 4 := Nat.min_le_left _ _
theorem lt_chn (n l i k : Nat) (hk : k < 4) : k < chn n l i ↔ 4 * i + k < wd n l := by unfold chn; omega
theorem Fputs_at (n l i k : Nat) (N : List Rf) (F : Nat → Rf) (hk : k < 4) (h : 4 * i + k < wd n l) : Fputs n l i N F (fr (chn n l i)) (itm n l (4 * i + k)) = N.getD k zr :=
  (Fputs_fr n l i N F _ (chn_le n l i)).1 k ((lt_chn n l i k hk).2 h)
noncomputable def rdSt (K : List Int) (n q : Nat) (s : Disk.Dk × Int × (Nat → Rf)) (j : Nat) : Disk.Dk × Int × (Nat → Rf) := if s.2.1 ≠ 0 then s else ndM K n s j (q / 4 ^ (j + 1))
noncomputable def rdM (K : List Int) (n q : Nat) : Nat → Disk.Dk × Int × (Nat → Rf) → Disk.Dk × Int × (Nat → Rf)
  | 0, s => s
  | l + 1, s => rdM K n q l (rdSt K n q s l)
theorem rdM_err (K : List Int) (n q : Nat) : ∀ l s, s.2.1 ≠ 0 → rdM K n q l s = s
  | 0, s, _ => rfl
  | l + 1, s, h => by rw [rdM, rdSt, if_pos h]; exact rdM_err K n q l s h
theorem rdM_cam (K : List Int) (n q m : Nat) (s : Disk.Dk × Int × (Nat → Rf)) : ∀ k (h : k ≤ m), rdM K n q (m - k) ((cam m k h).foldl (fun s j => rdSt K n q s j.val) s) = rdM K n q m s
  | 0, h => rfl
  | k + 1, h => by
    rw [cam, List.foldl_append]
    have := rdM_cam K n q m s k (by omega)
    rw [← this, show m - k = (m - (k + 1)) + 1 by omega, rdM]
    simp only [List.foldl_cons, List.foldl_nil]
    rw [show m - 1 - k = m - (k + 1) by omega]
theorem readM_rd (K : List Int) (n q : Nat) (hq : q < n) : ∀ l d F, readM (Yk K) Xd n q l d (F (itm n l (q / 4 ^ l))) = if (rdM K n q l (d, 0, F)).2.1 ≠ 0 then ((rdM K n q l (d, 0, F)).1, (rdM K n q l (d, 0, F)).2.1, []) else getM (Yk K) Xd n (rdM K n q l (d, 0, F)).1 0 q ((rdM K n q l (d, 0, F)).2.2 (itm n 0 q))
  | 0, d, F => by simp [readM, rdM]
  | l + 1, d, F => by
    obtain ⟨Z, hZ⟩ : ∃ Z, getM (Yk K) Xd n d (l + 1) (q / 4 ^ (l + 1)) (F (itm n (l + 1) (q / 4 ^ (l + 1)))) = Z := ⟨_, rfl⟩
    have e1 : rdM K n q (l + 1) (d, 0, F) = rdM K n q l (if Z.2.1 ≠ 0 then (Z.1, Z.2.1, F) else (Z.1, 0, Fputs n l (q / 4 ^ (l + 1)) (ofN Z.2.2 4) F (fr (chn n l (q / 4 ^ (l + 1)))))) := by
      rw [rdM, rdSt, if_neg (by simp), ndM]
      simp only [hZ]
    rw [readM, e1, hZ]
    by_cases h : Z.2.1 ≠ 0
    · rw [if_pos h, if_pos h, rdM_err K n q l _ h, if_pos h]
    · rw [if_neg h, if_neg h]
      have hw := quart_lt n q hq l
      have e := quart_at q l
      have hk : q / 4 ^ l % 4 < 4 := Nat.mod_lt _ (by decide)
      have ih := readM_rd K n q hq l Z.1 (Fputs n l (q / 4 ^ (l + 1)) (ofN Z.2.2 4) F (fr (chn n l (q / 4 ^ (l + 1)))))
      have e2 : itm n l (q / 4 ^ l) = itm n l (4 * (q / 4 ^ (l + 1)) + q / 4 ^ l % 4) := by rw [← e]
      rw [e2, Fputs_at n l _ _ _ F hk (by rw [← e]; exact hw)] at ih
      exact ih
def F0 (n : Nat) (top : Rf) : Nat → Rf := fun x => if x = itm n (topL n) 0 then top else zr
theorem relF_0 (n : Nat) (top : Rf) : RelF (fput (fun _ => none) (itm n (topL n) 0 : Nat) (.agg (ra top))) (F0 n top) := by
  have h : RelF (fun _ => none) (fun _ => zr) := fun i => rfl
  exact relF_put h _ _
theorem okF_0 (n : Nat) (top : Rf) (h : OkR top) : ∀ j, OkR (F0 n top j) := fun j => by
  unfold F0
  split
  · exact h
  · exact ⟨rfl, byt_zeros 32, by constructor <;> decide⟩
theorem quart_top (n q : Nat) (h1 : 1 ≤ n) (h2 : n ≤ 1024) (hq : q < n) : q / 4 ^ topL n = 0 := by
  have := quart_lt n q hq (topL n)
  rw [topL_one n h1 h2] at this
  exact Nat.lt_one_iff.1 this
theorem ndM_disk (K : List Int) (n : Nat) (s : Disk.Dk × Int × (Nat → Rf)) (l i : Nat) : (ndM K n s l i).1.uw = s.1.uw ∧ (ndM K n s l i).1.n = s.1.n ∧ (ndM K n s l i).1.ops.length ≤ s.1.ops.length + 1 := by
  have := getM_disk K n s.1 (l + 1) i (s.2.2 (itm n (l + 1) i))
  unfold ndM
  split <;> exact ⟨this.1, this.2.1, this.2.2.1⟩
theorem fold_disk (K : List Int) (n q m : Nat) : ∀ (pre : List (Fin m)) (s : Disk.Dk × Int × (Nat → Rf)), (pre.foldl (fun s j => rdSt K n q s j.val) s).1.uw = s.1.uw ∧ (pre.foldl (fun s j => rdSt K n q s j.val) s).1.n = s.1.n ∧ (pre.foldl (fun s j => rdSt K n q s j.val) s).1.ops.length ≤ s.1.ops.length + pre.length
  | [], s => ⟨rfl, rfl, by simp⟩
  | j :: pre, s => by
    have ih := fold_disk K n q m pre (rdSt K n q s j.val)
    have h1 : (rdSt K n q s j.val).1.uw = s.1.uw ∧ (rdSt K n q s j.val).1.n = s.1.n ∧ (rdSt K n q s j.val).1.ops.length ≤ s.1.ops.length + 1 := by
      unfold rdSt
      split
      · exact ⟨rfl, rfl, by omega⟩
      · exact ndM_disk K n s _ _
    simp only [List.foldl_cons, List.length_cons]
    exact ⟨ih.1.trans h1.1, ih.2.1.trans h1.2.1, by omega⟩
end Go.Proofs.YthbbijaikcmaeaaGreatDoor
