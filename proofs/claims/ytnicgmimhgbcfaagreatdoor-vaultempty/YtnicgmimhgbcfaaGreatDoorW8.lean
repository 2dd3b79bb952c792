/-
  What slices.Backward hands on of a row of ints, from the last one on; nodes got one behind the other, told plainly.
-/
import Derived.Test.YtnicgmimhgbcfaaGreatDoorW7
namespace Go.Proofs.YtnicgmimhgbcfaaGreatDoor
set_option linter.unusedVariables false
set_option maxRecDepth 100000
open Go.RowKit Go.Shelf Plain Go.Proofs.YtnicgmimhgbcfaaGreatDoor.Shap.Plain
attribute [local go_sem] Oper.semAt_some

/-- What has come behind so many rounds, of m: the places, from the last one on. -/
def cam (m : Nat) : (k : Nat) → k ≤ m → List (Fin m)
  | 0, _ => []
  | k + 1, h => cam m k (by omega) ++ [⟨m - 1 - k, by omega⟩]
theorem cam_length (m : Nat) : ∀ k h, (cam m k h).length = k
  | 0, _ => rfl
  | k + 1, h => by rw [cam, List.length_append, cam_length m k]; rfl
def encI (L : List Int) (j : Fin L.length) : Array Value := #[.int .i64 (j.val : Int), .int .i64 L[j]]
/-- What Backward leans on, in memory. -/
structure Bk (W : World) (Bs : Nat) (a : Option Addr) (cap : Nat) (L : List Int) : Prop where
  box : W.heap[Bs]? = some (.cells #[.slice a L.length cap] 42 (0, 0))
  ints : Shap.Ints W a L.length L
def bkS (Bs : Nat) (a : Option Addr) (k : Nat) : Prop := k = Bs ∨ ∃ ad, a = some ad ∧ k = ad.block
theorem Bk.kps {W W' : World} {Bs : Nat} {a : Option Addr} {cap : Nat} {L : List Int} {S : Nat → Prop} (h : Bk W Bs a cap L) (hk : Kps S W W') (hS : ∀ k, bkS Bs a k → S k) : Bk W' Bs a cap L :=
  ⟨hk.block (hS _ (.inl rfl)) h.box, hk.ints h.ints (fun ad e => hS _ (.inr ⟨ad, e, rfl⟩))⟩
theorem Bk.below {W W' : World} {Bs : Nat} {a : Option Addr} {cap : Nat} {L : List Int} (h : Bk W Bs a cap L) (hb : Below W.heap.size W W') : Bk W' Bs a cap L := h.kps (S := fun _ => True) (Kps.below hb) (fun _ _ => trivial)
set_option maxHeartbeats 2000000 in
theorem backI_in (n : Nat) (hn : 1 ≤ n) (lo Bs cap : Nat) (a : Option Addr) (L : List Int) (hreach : L.length < 1000000) (S : Nat → Prop) (hS : ∀ k, bkS Bs a k → S k) (J Jx : List (Fin L.length) → World → Prop)
    (hY : ∀ pre x W, J pre W → pre.length < L.length → YieldAt Fence.wide (n - 1) Tryz.prog lo (encI L x) W fun e W' =>
      (e = .returned (.bool true) ∧ J (pre ++ [x]) W' ∧ Kps S W W') ∨ (e = .returned (.bool false) ∧ Jx (pre ++ [x]) W'))
    (W : World) (hB : Bk W Bs a cap L) (h0 : J [] W) :
    CallsIn Fence.wide n Tryz.prog 102 #[.func (.yield lo) #[] #[], .pointer (some ⟨Bs, 0, none⟩)] W fun e W' => (∃ v, e = .returned v) ∧
      ((∃ ys, ys = cam L.length L.length (Nat.le_refl _) ∧ J ys W') ∨ (∃ pre, (∃ k h, pre = cam L.length k h) ∧ Jx pre W')) := by
  refine callsIn_of_wp Tryz.func102 rfl trivial ?_ rfl
  simp only [Tryz.ntmps102, List.size_toArray, List.length_cons, List.length_nil, Nat.reduceAdd, Nat.reduceSub, Array.replicate_succ, Array.replicate_zero, List.push_toArray, List.append_toArray, List.nil_append, List.cons_append]
  have hw1 : IntKind.i64.wrap ((L.length : Int) - 1) = (L.length : Int) - 1 := by rw [IntKind.wrap_i64]; omega
  have hBs : W.cell? ⟨Bs, 0, none⟩ = some (.slice a L.length cap) := by rw [cell_of_row _ _ _ _ _ _ hB.box]; rfl
  have HB : Box (Bk W Bs a cap L) := ⟨hB⟩
  have HY : Box _ := ⟨hY⟩
  have H0 : Box (J [] W) := ⟨h0⟩
  have HS : Box (∀ k, bkS Bs a k → S k) := ⟨hS⟩
  clear hB hY h0 hS
  gi_wp2
  gi_loopw [3] (fun i wr => ∃ k : Nat, ∃ h : k ≤ L.length, i = .int .i64 ((L.length : Int) - 1 - k) ∧ Box (J (cam L.length k h) wr) ∧ Box (Bk wr Bs a cap L)) (fun i _ => (intOf i + 1).toNat)
  case atStart => exact ⟨0, Nat.zero_le _, by simp, H0, HB⟩
  case round =>
    clear hBs H0 HB
    obtain ⟨k, hk, rfl, hJs, hBk⟩ := hrel
    have hBs' : wr.cell? ⟨Bs, 0, none⟩ = some (.slice a L.length cap) := by rw [cell_of_row _ _ _ _ _ _ hBk.out.box]; rfl
    by_cases hlt2 : k < L.length
    · have hq : L.length - 1 - k < L.length := by omega
      obtain ⟨b, o, e, hbl, hcell⟩ := hBk.out.ints.2 (by omega)
      subst e
      have hc := hcell (L.length - 1 - k) hq
      have hgd : L.getD (L.length - 1 - k) 0 = L[L.length - 1 - k] := by simp [hq]
      rw [hgd] at hc
      obtain ⟨fn, tmps, assign, body, hy, hR⟩ := HY.out _ ⟨L.length - 1 - k, hq⟩ wr hJs.out (by rw [cam_length]; exact hlt2)
      have hy2 : (Instr.yield lo #[Value.int .i64 ((L.length - 1 - k : Nat) : Int), .int .i64 L[L.length - 1 - k]]).run Tryz.prog wr = .ok (.round lo fn tmps assign body) wr := hy
      rw [show ((L.length : Int) - 1 - k) = ((L.length - 1 - k : Nat) : Int) by omega]
      have HR : Box (RoundIn Fence.wide (n - 1) Tryz.prog lo fn tmps assign body wr fun e W' => (e = .returned (.bool true) ∧ J (cam L.length (k + 1) hlt2) W' ∧ Kps S wr W') ∨ (e = .returned (.bool false) ∧ Jx (cam L.length (k + 1) hlt2) W')) := ⟨hR⟩
      have hqe : Box (L.length - 1 - k + k + 1 = L.length) := ⟨by omega⟩
      have hw2 : IntKind.i64.wrap (((L.length - 1 - k : Nat) : Int) - 1) = ((L.length - 1 - k : Nat) : Int) - 1 := by rw [IntKind.wrap_i64]; omega
      clear hy hR hgd hcell hbl hJs
      generalize L[L.length - 1 - k] = z at hy2 hc
      generalize hqq : L.length - 1 - k = q at *
      have hql : q < L.length := by omega
      clear hqq
      gi_wp2
      refine HR.out.mono ?_
      rintro e W3 (⟨rfl, hJ3, hk3⟩ | ⟨rfl, hJx3⟩)
      · have HJ3 : Box (J (cam L.length (k + 1) hlt2) W3 ∧ Bk W3 Bs (some ⟨b, o, none⟩) cap L) := ⟨hJ3, hBk.out.kps hk3 HS.out⟩
        clear hJ3 hk3
        gi_wp2
        go_roundw
        case rel => exact ⟨k + 1, hlt2, by have := hqe.out; congr 1; omega, ⟨HJ3.out.1⟩, ⟨HJ3.out.2⟩⟩
        case measure => simp [intOf]
      · have HJ3 : Box (Jx (cam L.length (k + 1) hlt2) W3) := ⟨hJx3⟩
        clear hJx3
        gi_wp2
        refine bodyPost_ret (results_none rfl _ _ _) rfl ?_
        exact ⟨⟨_, rfl⟩, .inr ⟨_, ⟨k + 1, hlt2, rfl⟩, HJ3.out⟩⟩
    · obtain rfl : k = L.length := by omega
      have hneg : decide (0 ≤ (L.length : Int) - 1 - L.length) = false := by simp; omega
      gi_wp2
      go_end0
      exact ⟨⟨_, rfl⟩, .inl ⟨_, rfl, hJs.out⟩⟩
/-- The iterator that Backward makes. -/
theorem backI_stops (n : Nat) (hn : 1 ≤ n) (Bs cap : Nat) (a : Option Addr) (L : List Int) (hreach : L.length < 1000000) (S : Nat → Prop) (hS : ∀ k, bkS Bs a k → S k) (w : World) (hB : Bk w Bs a cap L) :
    SeqStopsK Fence.wide n Tryz.prog 102 #[.pointer (some ⟨Bs, 0, none⟩)] (encI L) (Kps S) (fun ys => ys = cam L.length L.length (Nat.le_refl _)) (fun pre => ∃ k h, pre = cam L.length k h) L.length w := fun lo J Jx W hW _ _ hY h0 =>
  backI_in n hn lo Bs cap a L hreach S hS J Jx hY W (hB.below hW) h0
theorem backI_v (a : Option Addr) (len cap : Nat) (x : World) : Calls Tryz.prog 62 #[.slice a len cap] x fun e w' =>
    e = .returned (.func (.func 102) #[] #[.pointer (some ⟨x.heap.size, 0, none⟩)]) ∧ w' = x.alloc (.cells #[.slice a len cap] 42) := by
  go_enter Tryz.func62, Tryz.ntmps62
  go_wp2
  go_ret
  simp

/-- What is known, by the items' numbers, in a map. -/
def RelF (g : Int → Option Value) (F : Nat → Rf) : Prop := ∀ i : Nat, (g (i : Int)).getD (.agg (ra zr)) = .agg (ra (F i))
def Fput (F : Nat → Rf) (i : Nat) (r : Rf) : Nat → Rf := fun j => if j = i then r else F j
def Fputs (n l i : Nat) (N : List Rf) (F : Nat → Rf) (ks : List (Fin 4)) : Nat → Rf := ks.foldl (fun G k => Fput G (itm n l (4 * i + k.val)) (N.getD k.val zr)) F
theorem relF_put {g : Int → Option Value} {F : Nat → Rf} (h : RelF g F) (i : Nat) (r : Rf) : RelF (fput g (i : Int) (.agg (ra r))) (Fput F i r) := fun j => by
  unfold fput Fput
  by_cases e : j = i
  · subst e; simp
  · rw [if_neg (by omega), if_neg e]; exact h j
theorem relF_puts (n l i : Nat) (N : List Rf) : ∀ (ks : List (Fin 4)) (g : Int → Option Value) (F : Nat → Rf), RelF g F → RelF (fputs n l i N g ks) (Fputs n l i N F ks)
  | [], g, F, h => h
  | k :: ks, g, F, h => relF_puts n l i N ks _ _ (relF_put h _ _)
theorem okF_puts (n l i : Nat) (N : List Rf) (hN : OkN N) : ∀ (ks : List (Fin 4)) (F : Nat → Rf), (∀ j, OkR (F j)) → ∀ j, OkR (Fputs n l i N F ks j)
  | [], F, h, j => h j
  | k :: ks, F, h, j => okF_puts n l i N hN ks _ (fun q => by unfold Fput; dsimp only; split; exact getD_ok hN _; exact h q) j
/-- A node got: the disk, an error, what is known. -/
noncomputable def ndM (K : List Int) (n : Nat) (s : Disk.Dk × Int × (Nat → Rf)) (l i : Nat) : Disk.Dk × Int × (Nat → Rf) :=
  if (getM (Yk K) Xd n s.1 (l + 1) i (s.2.2 (itm n (l + 1) i))).2.1 ≠ 0 then ((getM (Yk K) Xd n s.1 (l + 1) i (s.2.2 (itm n (l + 1) i))).1, (getM (Yk K) Xd n s.1 (l + 1) i (s.2.2 (itm n (l + 1) i))).2.1, s.2.2)
  else ((getM (Yk K) Xd n s.1 (l + 1) i (s.2.2 (itm n (l + 1) i))).1, 0, Fputs n l i (ofN (getM (Yk K) Xd n s.1 (l + 1) i (s.2.2 (itm n (l + 1) i))).2.2 4) s.2.2 (fr (chn n l i)))
theorem getM_disk (K : List Int) (n : Nat) (d : Disk.Dk) (l i : Nat) (r : Rf) : (getM (Yk K) Xd n d l i r).1.uw = d.uw ∧ (getM (Yk K) Xd n d l i r).1.n = d.n ∧ (getM (Yk K) Xd n d l i r).1.ops.length ≤ d.ops.length + 1 ∧ (getM (Yk K) Xd n d l i r).1.st = d.st ∧ (getM (Yk K) Xd n d l i r).1.left = d.left := by
  have key : (getM (Yk K) Xd n d l i r).1 = d ∨ (getM (Yk K) Xd n d l i r).1 = (Xd.rd d (pc n l i r)).1 := by
    unfold getM
    split
    · exact .inl rfl
    · split
      · exact .inr rfl
      · split
        · split
          · split <;> exact .inr rfl
          · exact .inr rfl
        · exact .inr rfl
  rcases key with h | h
  · rw [h]; exact ⟨rfl, rfl, by omega, rfl, rfl⟩
  · rw [h]
    cases hd : d.down with
    | true => simp [Xd, hd]
    | false => simp [Xd, hd, Disk.rdOk]
theorem ofN_ok (B : List Int) (h : B.length = 160) (hb : Byt B) : OkN (ofN B 4) := by
  have h1 := ok_upN B hb h 4 (Nat.le_refl _)
  have e : upN B 4 = ofN B 4 := by simp [upN]
  rw [e] at h1
  exact h1
end Go.Proofs.YtnicgmimhgbcfaaGreatDoor
