/-
  A vault's tree, told plainly: what is known of its items, when this holds of a disk's places, what is read of it, and what an update makes of it. Nothing of the program is said here; sealing and digesting are letters. And what follows it.
-/
import Derived.Test.YthbbijaikcmaeaaGreatDoorX18
namespace Go.Proofs.YthbbijaikcmaeaaGreatDoor.Plain
set_option maxRecDepth 100000
set_option linter.unusedVariables false
set_option maxRecDepth 100000
open Go.RowKit
structure Sys where
  sl : Nat → Int → List Int → List Int
  hs : Nat → Nat → List Int → List Int
  op : Nat → List Int → Option (Int × List Int)
  back : ∀ p v B, B.length = 160 → Byt B → 1 ≤ v → v ≤ 9223372036854775807 → op p (sl p v B) = some (v, B)
  hl : ∀ l p S, (hs l p S).length = 32 ∧ Byt (hs l p S)
def wd (n : Nat) : Nat → Nat
  | 0 => n
  | l + 1 => (wd n l + 3) / 4
def off (n : Nat) : Nat → Nat
  | 0 => 0
  | l + 1 => off n l + wd n l
def itm (n l i : Nat) : Nat := off n l + i
theorem off_mono (n l m : Nat) (h : l ≤ m) : off n l ≤ off n m := by
  induction m with
  | zero => rw [Nat.le_zero.1 h]; exact Nat.le_refl _
  | succ m ih =>
    by_cases e : l = m + 1
    · rw [e]; exact Nat.le_refl _
    · have := ih (by omega)
      rw [off]; omega
theorem itm_inj (n l l' i i' : Nat) (hi : i < wd n l) (hi' : i' < wd n l') (h : itm n l i = itm n l' i') : l = l' ∧ i = i' := by
  unfold itm at h
  rcases Nat.lt_trichotomy l l' with e | e | e
  · have := off_mono n (l + 1) l' e
    rw [off] at this
    omega
  · subst e
    exact ⟨rfl, by omega⟩
  · have := off_mono n (l' + 1) l e
    rw [off] at this
    omega
theorem quart_up (j l : Nat) : j / 4 ^ (l + 1) = j / 4 ^ l / 4 := by rw [Nat.pow_succ, Nat.div_div_eq_div_mul]
theorem quart_lt (n j : Nat) (hj : j < n) : ∀ l, j / 4 ^ l < wd n l
  | 0 => by simpa [wd] using hj
  | l + 1 => by
    have := quart_lt n j hj l
    rw [quart_up, wd]
    omega
theorem quart_at (j l : Nat) : j / 4 ^ l = 4 * (j / 4 ^ (l + 1)) + j / 4 ^ l % 4 := by rw [quart_up]; omega
def sd (r : Rf) : Nat := (r.s % 2).toNat
theorem sd_lt (r : Rf) : sd r < 2 := by unfold sd; omega
def pc (n l i : Nat) (r : Rf) : Nat := 2 * itm n l i + sd r
def chd (k : Nat → Rf) (i : Nat) : List Rf := [k (4 * i), k (4 * i + 1), k (4 * i + 2), k (4 * i + 3)]
def body (f : Nat → List Int) (K : Nat → Nat → Rf) : Nat → Nat → List Int
  | 0, i => f i
  | l + 1, i => nb (chd (K l) i)
def y160 : List Int := List.replicate 160 0
def yr : Rf := ⟨List.replicate 32 0, 0⟩
theorem chd_at (k : Nat → Rf) (i m : Nat) (hm : m < 4) : (chd k i).getD m yr = k (4 * i + m) := by
  match m, hm with
  | 0, _ => rfl
  | 1, _ => rfl
  | 2, _ => rfl
  | 3, _ => rfl
theorem chd_ok (k : Nat → Rf) (i : Nat) (h : ∀ j, OkR (k j)) : OkN (chd k i) := by
  intro r hr
  simp only [chd, List.mem_cons, List.not_mem_nil, or_false] at hr
  rcases hr with rfl | rfl | rfl | rfl <;> exact h _
structure Cert (Y : Sys) (n T : Nat) (rd f : Nat → List Int) (K : Nat → Nat → Rf) : Prop where
  okr : ∀ l i, OkR (K l i)
  okf : ∀ i, (f i).length = 160 ∧ Byt (f i)
  nil0 : ∀ i, i < n → (K 0 i).s = 0 → f i = y160
  nilS : ∀ l i, l + 1 ≤ T → i < wd n (l + 1) → (K (l + 1) i).s = 0 → ∀ k, k < 4 → K l (4 * i + k) = yr
  got : ∀ l i, l ≤ T → i < wd n l → (K l i).s ≠ 0 → (K l i).d = Y.hs l (pc n l i (K l i)) (rd (pc n l i (K l i))) ∧ Y.op (pc n l i (K l i)) (rd (pc n l i (K l i))) = some ((K l i).s / 2, body f K l i)
theorem body_ok {Y : Sys} {n T : Nat} {rd f : Nat → List Int} {K : Nat → Nat → Rf} (hr : ∀ l i, OkR (K l i)) (hf : ∀ i, (f i).length = 160 ∧ Byt (f i)) (l i : Nat) : (body f K l i).length = 160 ∧ Byt (body f K l i) := by
  cases l with
  | zero => exact hf i
  | succ l =>
    have h := chd_ok (K l) i (hr l)
    exact ⟨by rw [body, len_nb h]; rfl, byt_nb h⟩
theorem Cert.same {Y : Sys} {n T : Nat} {rd rd' f : Nat → List Int} {K : Nat → Nat → Rf} (h : Cert Y n T rd f K) (hs : ∀ l i, l ≤ T → i < wd n l → (K l i).s ≠ 0 → rd' (pc n l i (K l i)) = rd (pc n l i (K l i))) : Cert Y n T rd' f K :=
  ⟨h.okr, h.okf, h.nil0, h.nilS, fun l i hl hi h0 => by rw [hs l i hl hi h0]; exact h.got l i hl hi h0⟩
def vgot (Y : Sys) (n : Nat) (rd : Nat → List Int) (l i : Nat) (r : Rf) : Option (List Int) :=
  if r.d = Y.hs l (pc n l i r) (rd (pc n l i r)) then
    match Y.op (pc n l i r) (rd (pc n l i r)) with
    | some (v, B) => if v = r.s / 2 then some B else none
    | none => none
  else none
def vrd (Y : Sys) (n : Nat) (rd : Nat → List Int) (j : Nat) : Nat → Rf → Option (List Int)
  | 0, r => if r.s = 0 then some y160 else vgot Y n rd 0 j r
  | l + 1, r => if r.s = 0 then some y160 else
    match vgot Y n rd (l + 1) (j / 4 ^ (l + 1)) r with
    | none => none
    | some b => vrd Y n rd j l ((ofN b 4).getD (j / 4 ^ l % 4) yr)
theorem Cert.vgot {Y : Sys} {n T : Nat} {rd f : Nat → List Int} {K : Nat → Nat → Rf} (h : Cert Y n T rd f K) (l i : Nat) (hl : l ≤ T) (hi : i < wd n l) (h0 : (K l i).s ≠ 0) : vgot Y n rd l i (K l i) = some (body f K l i) := by
  obtain ⟨h1, h2⟩ := h.got l i hl hi h0
  unfold Plain.vgot
  rw [if_pos h1, h2]
  simp
theorem Cert.none {Y : Sys} {n T : Nat} {rd f : Nat → List Int} {K : Nat → Nat → Rf} (h : Cert Y n T rd f K) (j : Nat) (hj : j < n) : ∀ l, l ≤ T → (K l (j / 4 ^ l)).s = 0 → f j = y160
  | 0, _, h0 => h.nil0 j hj (by simpa using h0)
  | l + 1, hl, h0 => by
    have := h.nilS l _ hl (quart_lt n j hj (l + 1)) h0 (j / 4 ^ l % 4) (by omega)
    rw [← quart_at] at this
    exact h.none j hj l (by omega) (by rw [this]; rfl)
theorem Cert.read {Y : Sys} {n T : Nat} {rd f : Nat → List Int} {K : Nat → Nat → Rf} (h : Cert Y n T rd f K) (j : Nat) (hj : j < n) : ∀ l, l ≤ T → vrd Y n rd j l (K l (j / 4 ^ l)) = some (f j)
  | 0, hl => by
    by_cases h0 : (K 0 (j / 4 ^ 0)).s = 0
    · rw [vrd, if_pos h0, h.none j hj 0 hl h0]
    · rw [vrd, if_neg h0]
      have := h.vgot 0 (j / 4 ^ 0) hl (quart_lt n j hj 0) h0
      simpa [body] using this
  | l + 1, hl => by
    by_cases h0 : (K (l + 1) (j / 4 ^ (l + 1))).s = 0
    · rw [vrd, if_pos h0, h.none j hj (l + 1) hl h0]
    · have hc := chd_ok (K l) (j / 4 ^ (l + 1)) (h.okr l)
      rw [vrd, if_neg h0, h.vgot (l + 1) _ hl (quart_lt n j hj (l + 1)) h0]
      simp only [body]
      rw [ofN_nb hc 4 (Nat.le_refl _), List.take_of_length_le (Nat.le_refl 4), chd_at _ _ _ (by omega), ← quart_at]
      exact h.read j hj l (by omega)
def wrt (g : Nat → Option (List Int)) (n l i : Nat) : Bool := (List.range n).any fun j => (g j).isSome && (j / 4 ^ l == i)
theorem wrt_iff (g : Nat → Option (List Int)) (n l i : Nat) : wrt g n l i = true ↔ ∃ j, j < n ∧ (g j).isSome = true ∧ j / 4 ^ l = i := by
  simp [wrt, List.any_eq_true]
theorem wrt_leaf (g : Nat → Option (List Int)) (n i : Nat) (hi : i < n) (h : wrt g n 0 i = false) : g i = none := by
  cases hg : g i with
  | none => rfl
  | some b =>
    rw [(wrt_iff g n 0 i).2 ⟨i, hi, by simp [hg], by simp⟩] at h
    cases h
theorem wrt_up (g : Nat → Option (List Int)) (n l i k : Nat) (hk : k < 4) (h : wrt g n (l + 1) i = false) : wrt g n l (4 * i + k) = false := by
  cases hq : wrt g n l (4 * i + k) with
  | false => rfl
  | true =>
    obtain ⟨j, hj, hg, he⟩ := (wrt_iff g n l _).1 hq
    rw [(wrt_iff g n (l + 1) i).2 ⟨j, hj, hg, by rw [quart_up, he]; omega⟩] at h
    cases h
def ns (r : Rf) : Nat := if r.s = 0 then 0 else 1 - sd r
theorem ns_lt (r : Rf) : ns r < 2 := by unfold ns; split <;> omega
def np (n : Nat) (K : Nat → Nat → Rf) (l i : Nat) : Nat := 2 * itm n l i + ns (K l i)
def mkR (Y : Sys) (n : Nat) (K : Nat → Nat → Rf) (ver : Nat → Nat → Int) (l i : Nat) (B : List Int) : Rf :=
  ⟨Y.hs l (np n K l i) (Y.sl (np n K l i) (ver l i) B), 2 * ver l i + (ns (K l i) : Int)⟩
def newK (Y : Sys) (n : Nat) (K : Nat → Nat → Rf) (g : Nat → Option (List Int)) (ver : Nat → Nat → Int) : Nat → Nat → Rf
  | 0 => fun i => if wrt g n 0 i = true then mkR Y n K ver 0 i ((g i).getD []) else K 0 i
  | l + 1 => fun i => if wrt g n (l + 1) i = true then mkR Y n K ver (l + 1) i (nb (chd (newK Y n K g ver l) i)) else K (l + 1) i
def newF (f : Nat → List Int) (g : Nat → Option (List Int)) (j : Nat) : List Int := (g j).getD (f j)
theorem newK_no (Y : Sys) (n : Nat) (K : Nat → Nat → Rf) (g : Nat → Option (List Int)) (ver : Nat → Nat → Int) (l i : Nat) (h : wrt g n l i = false) : newK Y n K g ver l i = K l i := by
  cases l <;> simp [newK, h]
theorem newK_yes (Y : Sys) (n : Nat) (K : Nat → Nat → Rf) (f : Nat → List Int) (g : Nat → Option (List Int)) (ver : Nat → Nat → Int) (l i : Nat) (h : wrt g n l i = true) : newK Y n K g ver l i = mkR Y n K ver l i (body (newF f g) (newK Y n K g ver) l i) := by
  cases l with
  | zero =>
    obtain ⟨j, _, hg, he⟩ := (wrt_iff g n 0 i).1 h
    have he' : j = i := by simpa using he
    subst he'
    obtain ⟨b, hb⟩ := Option.isSome_iff_exists.1 hg
    simp [newK, h, body, newF, hb]
  | succ l => simp [newK, h, body]
theorem mkR_s {Y : Sys} {n : Nat} {K : Nat → Nat → Rf} {ver : Nat → Nat → Int} {l i : Nat} {B : List Int} (hv : 1 ≤ ver l i) : (mkR Y n K ver l i B).s ≠ 0 := by
  have := ns_lt (K l i)
  show 2 * ver l i + (ns (K l i) : Int) ≠ 0
  omega
theorem mkR_sd (Y : Sys) (n : Nat) (K : Nat → Nat → Rf) (ver : Nat → Nat → Int) (l i : Nat) (B : List Int) : sd (mkR Y n K ver l i B) = ns (K l i) := by
  have := ns_lt (K l i)
  unfold sd mkR
  simp only
  omega
theorem mkR_v (Y : Sys) (n : Nat) (K : Nat → Nat → Rf) (ver : Nat → Nat → Int) (l i : Nat) (B : List Int) : (mkR Y n K ver l i B).s / 2 = ver l i := by
  have := ns_lt (K l i)
  unfold mkR
  simp only
  omega
theorem np_ne (n : Nat) (K : Nat → Nat → Rf) (l l' i i' : Nat) (hi : i < wd n l) (hi' : i' < wd n l') (h0 : (K l' i').s ≠ 0) : np n K l i ≠ pc n l' i' (K l' i') := by
  intro e
  unfold np pc at e
  have h1 := ns_lt (K l i)
  have h2 := sd_lt (K l' i')
  obtain ⟨rfl, rfl⟩ := itm_inj n l l' i i' hi hi' (by omega)
  have : ns (K l i) = sd (K l i) := by omega
  unfold ns at this
  rw [if_neg h0] at this
  omega
theorem np_inj (n : Nat) (K : Nat → Nat → Rf) (l l' i i' : Nat) (hi : i < wd n l) (hi' : i' < wd n l') (e : np n K l i = np n K l' i') : l = l' ∧ i = i' := by
  unfold np at e
  have h1 := ns_lt (K l i)
  have h2 := ns_lt (K l' i')
  exact itm_inj n l l' i i' hi hi' (by omega)
theorem Cert.update {Y : Sys} {n T : Nat} {rd rd' f : Nat → List Int} {K : Nat → Nat → Rf} (h : Cert Y n T rd f K) (g : Nat → Option (List Int)) (ver : Nat → Nat → Int) (hg : ∀ j b, g j = some b → b.length = 160 ∧ Byt b) (hv : ∀ l i, 1 ≤ ver l i ∧ ver l i ≤ 9223372036854775807)
    (h1 : ∀ l i, l ≤ T → i < wd n l → wrt g n l i = true → rd' (np n K l i) = Y.sl (np n K l i) (ver l i) (body (newF f g) (newK Y n K g ver) l i))
    (h2 : ∀ l i, l ≤ T → i < wd n l → (K l i).s ≠ 0 → rd' (pc n l i (K l i)) = rd (pc n l i (K l i))) : Cert Y n T rd' (newF f g) (newK Y n K g ver) := by
  have okr : ∀ l i, OkR (newK Y n K g ver l i) := by
    intro l i
    cases hw : wrt g n l i with
    | false => rw [newK_no Y n K g ver l i hw]; exact h.okr l i
    | true =>
      rw [newK_yes Y n K f g ver l i hw]
      have := hv l i
      have := ns_lt (K l i)
      refine ⟨(Y.hl _ _ _).1, (Y.hl _ _ _).2, ?_⟩
      unfold N64 mkR
      simp only
      omega
  have okf : ∀ i, (newF f g i).length = 160 ∧ Byt (newF f g i) := by
    intro i
    unfold newF
    cases hq : g i with
    | none => exact h.okf i
    | some b => exact hg i b hq
  refine ⟨okr, okf, ?_, ?_, ?_⟩
  · intro i hi h0
    cases hw : wrt g n 0 i with
    | true =>
      rw [newK_yes Y n K f g ver 0 i hw] at h0
      exact absurd h0 (mkR_s (hv 0 i).1)
    | false =>
      rw [newK_no Y n K g ver 0 i hw] at h0
      rw [newF, wrt_leaf g n i hi hw, Option.getD_none]
      exact h.nil0 i hi h0
  · intro l i hl hi h0 k hk
    cases hw : wrt g n (l + 1) i with
    | true =>
      rw [newK_yes Y n K f g ver (l + 1) i hw] at h0
      exact absurd h0 (mkR_s (hv (l + 1) i).1)
    | false =>
      rw [newK_no Y n K g ver (l + 1) i hw] at h0
      rw [newK_no Y n K g ver l _ (wrt_up g n l i k hk hw)]
      exact h.nilS l i hl hi h0 k hk
  · intro l i hl hi h0
    cases hw : wrt g n l i with
    | true =>
      have hb := body_ok (Y := Y) (n := n) (T := T) (rd := rd) okr okf l i
      rw [newK_yes Y n K f g ver l i hw]
      have e : pc n l i (mkR Y n K ver l i (body (newF f g) (newK Y n K g ver) l i)) = np n K l i := by rw [pc, mkR_sd]; rfl
      rw [e, h1 l i hl hi hw, mkR_v, Y.back _ _ _ hb.1 hb.2 (hv l i).1 (hv l i).2]
      exact ⟨rfl, rfl⟩
    | false =>
      rw [newK_no Y n K g ver l i hw] at h0 ⊢
      obtain ⟨g1, g2⟩ := h.got l i hl hi h0
      rw [h2 l i hl hi h0]
      refine ⟨g1, g2.trans ?_⟩
      congr 2
      cases l with
      | zero =>
        show f i = newF f g i
        rw [newF, wrt_leaf g n i hi hw, Option.getD_none]
      | succ l =>
        show nb (chd (K l) i) = nb (chd (newK Y n K g ver l) i)
        have e := fun k hk => newK_no Y n K g ver l _ (wrt_up g n l i k hk hw)
        have e0 := e 0 (by omega)
        rw [Nat.add_zero] at e0
        simp only [chd, e0, e 1 (by omega), e 2 (by omega), e 3 (by omega)]
theorem cert_new (Y : Sys) (n T : Nat) (rd : Nat → List Int) : Cert Y n T rd (fun _ => y160) (fun _ _ => yr) := by
  have hr : OkR yr := ⟨List.length_replicate, byt_zeros 32, ⟨by decide, by decide⟩⟩
  exact ⟨fun _ _ => hr, fun _ => ⟨List.length_replicate, byt_zeros 160⟩, fun _ _ _ => rfl, fun _ _ _ _ _ _ _ => rfl, fun _ _ _ _ h0 => absurd rfl h0⟩
end Go.Proofs.YthbbijaikcmaeaaGreatDoor.Plain
namespace Go.Proofs.YthbbijaikcmaeaaGreatDoor.Plain
set_option maxRecDepth 100000
set_option linter.unusedVariables false
open Go.RowKit
structure Dsk (D : Type) where
  rd : D → Nat → D × Int × List Int
  wr : D → Nat → List Int → D × Int
def getM {D : Type} (Y : Sys) (X : Dsk D) (n : Nat) (d : D) (l i : Nat) (r : Rf) : D × Int × List Int :=
  if r.s = 0 then (d, 0, y160) else
  if (X.rd d (pc n l i r)).2.1 ≠ 0 then ((X.rd d (pc n l i r)).1, (X.rd d (pc n l i r)).2.1, []) else
  if r.d = Y.hs l (pc n l i r) (X.rd d (pc n l i r)).2.2 then
    match Y.op (pc n l i r) (X.rd d (pc n l i r)).2.2 with
    | some (v, B) => if v = r.s / 2 then ((X.rd d (pc n l i r)).1, 0, B) else ((X.rd d (pc n l i r)).1, 14, [])
    | none => ((X.rd d (pc n l i r)).1, 14, [])
  else ((X.rd d (pc n l i r)).1, 14, [])
def readM {D : Type} (Y : Sys) (X : Dsk D) (n j : Nat) : Nat → D → Rf → D × Int × List Int
  | 0, d, r => getM Y X n d 0 j r
  | l + 1, d, r =>
    if (getM Y X n d (l + 1) (j / 4 ^ (l + 1)) r).2.1 ≠ 0 then ((getM Y X n d (l + 1) (j / 4 ^ (l + 1)) r).1, (getM Y X n d (l + 1) (j / 4 ^ (l + 1)) r).2.1, []) else
    readM Y X n j l (getM Y X n d (l + 1) (j / 4 ^ (l + 1)) r).1 ((ofN (getM Y X n d (l + 1) (j / 4 ^ (l + 1)) r).2.2 4).getD (j / 4 ^ l % 4) yr)
def setCh (k : Nat → Rf) (i : Nat) (N : List Rf) : Nat → Rf := fun j => if j / 4 = i then N.getD (j % 4) yr else k j
def gatL {D : Type} (Y : Sys) (X : Dsk D) (n l : Nat) (a : Nat → Rf) : List Nat → D → (Nat → Rf) → D × Int × (Nat → Rf)
  | [], d, k => (d, 0, k)
  | i :: is, d, k =>
    if (getM Y X n d l i (a i)).2.1 ≠ 0 then ((getM Y X n d l i (a i)).1, (getM Y X n d l i (a i)).2.1, k) else
    gatL Y X n l a is (getM Y X n d l i (a i)).1 (setCh k i (ofN (getM Y X n d l i (a i)).2.2 4))
def wl (g : Nat → Option (List Int)) (n l : Nat) : List Nat := (List.range (wd n l)).filter (wrt g n l)
def setL (K : Nat → Nat → Rf) (l : Nat) (k : Nat → Rf) : Nat → Nat → Rf := fun m => if m = l then k else K m
def gat {D : Type} (Y : Sys) (X : Dsk D) (n : Nat) (g : Nat → Option (List Int)) : Nat → D → (Nat → Nat → Rf) → D × Int × (Nat → Nat → Rf)
  | 0, d, K => (d, 0, K)
  | l + 1, d, K =>
    if (gatL Y X n (l + 1) (K (l + 1)) (wl g n (l + 1)) d (K l)).2.1 ≠ 0 then ((gatL Y X n (l + 1) (K (l + 1)) (wl g n (l + 1)) d (K l)).1, (gatL Y X n (l + 1) (K (l + 1)) (wl g n (l + 1)) d (K l)).2.1, K) else
    gat Y X n g l (gatL Y X n (l + 1) (K (l + 1)) (wl g n (l + 1)) d (K l)).1 (setL K l (gatL Y X n (l + 1) (K (l + 1)) (wl g n (l + 1)) d (K l)).2.2)
def setK (K : Nat → Nat → Rf) (l i : Nat) (r : Rf) : Nat → Nat → Rf := fun m j => if m = l ∧ j = i then r else K m j
def wb (g : Nat → Option (List Int)) (K : Nat → Nat → Rf) : Nat → Nat → List Int
  | 0, i => (g i).getD []
  | l + 1, i => nb (chd (K l) i)
def wrM {D : Type} (Y : Sys) (X : Dsk D) (n : Nat) (g : Nat → Option (List Int)) : List (Nat × Nat) → D → Int → (Nat → Nat → Rf) → D × Int × Int × (Nat → Nat → Rf)
  | [], d, nx, K => (d, nx, 0, K)
  | (l, i) :: t, d, nx, K =>
    if (X.wr d (np n K l i) (Y.sl (np n K l i) nx (wb g K l i))).2 ≠ 0 then ((X.wr d (np n K l i) (Y.sl (np n K l i) nx (wb g K l i))).1, nx + 1, (X.wr d (np n K l i) (Y.sl (np n K l i) nx (wb g K l i))).2, K) else
    wrM Y X n g t (X.wr d (np n K l i) (Y.sl (np n K l i) nx (wb g K l i))).1 (nx + 1) (setK K l i ⟨Y.hs l (np n K l i) (Y.sl (np n K l i) nx (wb g K l i)), 2 * nx + (ns (K l i) : Int)⟩)
structure Sound {D : Type} (X : Dsk D) (lat : D → Nat → List Int) (up : D → Prop) (m : Nat) : Prop where
  rd : ∀ d p, up d → p < m → ∃ d', X.rd d p = (d', 0, lat d p) ∧ up d' ∧ ∀ q, lat d' q = lat d q
  wr : ∀ d p S, up d → p < m → ∃ d', X.wr d p S = (d', 0) ∧ up d' ∧ ∀ q, lat d' q = if q = p then S else lat d q
theorem itm_lt (n T l i : Nat) (hl : l ≤ T) (hi : i < wd n l) : itm n l i < off n (T + 1) := by
  have := off_mono n (l + 1) (T + 1) (by omega)
  rw [off] at this
  unfold itm
  omega
theorem getM_ok {D : Type} {Y : Sys} {X : Dsk D} {lat : D → Nat → List Int} {up : D → Prop} {n T m : Nat} {f : Nat → List Int} {K : Nat → Nat → Rf} (hX : Sound X lat up m) (hm : 2 * off n (T + 1) ≤ m) (d : D) (hu : up d) (hC : Cert Y n T (lat d) f K) (l i : Nat) (hl : l ≤ T) (hi : i < wd n l) :
    ∃ d' B, getM Y X n d l i (K l i) = (d', 0, B) ∧ up d' ∧ (∀ q, lat d' q = lat d q) ∧ ((K l i).s = 0 → B = y160) ∧ ((K l i).s ≠ 0 → B = body f K l i) := by
  by_cases h0 : (K l i).s = 0
  · exact ⟨d, y160, by rw [getM, if_pos h0], hu, fun _ => rfl, fun _ => rfl, fun h => absurd h0 h⟩
  · have hs := sd_lt (K l i)
    have hp : pc n l i (K l i) < m := by
      have := itm_lt n T l i hl hi
      unfold pc
      omega
    obtain ⟨d', e, h1, h2⟩ := hX.rd d _ hu hp
    obtain ⟨g1, g2⟩ := hC.got l i hl hi h0
    refine ⟨d', body f K l i, ?_, h1, h2, fun h => absurd h h0, fun _ => rfl⟩
    rw [getM, if_neg h0, e]
    simp only [ne_eq, not_true_eq_false, if_false]
    rw [if_pos g1, g2]
    simp
theorem y160_nb (i : Nat) : nb (chd (fun _ => yr) i) = y160 := by
  show nb [yr, yr, yr, yr] = y160
  decide +kernel
theorem ofN_y160 : ofN y160 4 = [yr, yr, yr, yr] := by
  have hr : OkR yr := ⟨List.length_replicate, byt_zeros 32, ⟨by decide, by decide⟩⟩
  have h := ofN_nb (chd_ok (fun _ => yr) 0 (fun _ => hr)) 4 (Nat.le_refl _)
  rw [y160_nb] at h
  exact h
theorem below_ok {Y : Sys} {n T : Nat} {rd f : Nat → List Int} {K : Nat → Nat → Rf} (hC : Cert Y n T rd f K) (l i : Nat) (hl : l + 1 ≤ T) (hi : i < wd n (l + 1)) (B : List Int) (h1 : (K (l + 1) i).s = 0 → B = y160) (h2 : (K (l + 1) i).s ≠ 0 → B = body f K (l + 1) i) (k : Nat) (hk : k < 4) : (ofN B 4).getD k yr = K l (4 * i + k) := by
  by_cases h0 : (K (l + 1) i).s = 0
  · rw [h1 h0, ofN_y160, hC.nilS l i hl hi h0 k hk]
    match k, hk with
    | 0, _ => rfl
    | 1, _ => rfl
    | 2, _ => rfl
    | 3, _ => rfl
  · rw [h2 h0, body, ofN_nb (chd_ok (K l) i (hC.okr l)) 4 (Nat.le_refl _), List.take_of_length_le (Nat.le_refl 4), chd_at _ _ _ hk]
theorem readM_ok {D : Type} {Y : Sys} {X : Dsk D} {lat : D → Nat → List Int} {up : D → Prop} {n T m : Nat} {f : Nat → List Int} {K : Nat → Nat → Rf} (hX : Sound X lat up m) (hm : 2 * off n (T + 1) ≤ m) (j : Nat) (hj : j < n) :
    ∀ l, l ≤ T → ∀ d, up d → Cert Y n T (lat d) f K → ∃ d', readM Y X n j l d (K l (j / 4 ^ l)) = (d', 0, f j) ∧ up d' ∧ ∀ q, lat d' q = lat d q
  | 0, hl, d, hu, hC => by
    obtain ⟨d', B, e, h1, h2, h3, h4⟩ := getM_ok hX hm d hu hC 0 (j / 4 ^ 0) hl (quart_lt n j hj 0)
    have e0 : j / 4 ^ 0 = j := by simp
    rw [e0] at e h3 h4 ⊢
    refine ⟨d', ?_, h1, h2⟩
    rw [readM, e]
    by_cases h0 : (K 0 j).s = 0
    · rw [h3 h0, hC.nil0 j hj h0]
    · rw [h4 h0]; rfl
  | l + 1, hl, d, hu, hC => by
    have hq := quart_lt n j hj (l + 1)
    obtain ⟨d', B, e, h1, h2, h3, h4⟩ := getM_ok hX hm d hu hC (l + 1) (j / 4 ^ (l + 1)) hl hq
    have hC' : Cert Y n T (lat d') f K := hC.same (fun _ _ _ _ _ => h2 _)
    obtain ⟨d'', e', k1, k2⟩ := readM_ok hX hm j hj l (by omega) d' h1 hC'
    refine ⟨d'', ?_, k1, fun q => (k2 q).trans (h2 q)⟩
    rw [readM, e]
    simp only [ne_eq, not_true_eq_false, if_false]
    rw [below_ok hC l _ hl hq B h3 h4 _ (by omega), ← quart_at]
    exact e'
theorem gatL_ok {D : Type} {Y : Sys} {X : Dsk D} {lat : D → Nat → List Int} {up : D → Prop} {n T m : Nat} {f : Nat → List Int} {K : Nat → Nat → Rf} (hX : Sound X lat up m) (hm : 2 * off n (T + 1) ≤ m) (l : Nat) (hl : l + 1 ≤ T) (a : Nat → Rf) :
    ∀ (is : List Nat) (d : D) (k : Nat → Rf), (∀ i ∈ is, i < wd n (l + 1) ∧ a i = K (l + 1) i) → up d → Cert Y n T (lat d) f K →
      ∃ d' k', gatL Y X n (l + 1) a is d k = (d', 0, k') ∧ up d' ∧ (∀ q, lat d' q = lat d q) ∧ ∀ j, (j / 4 ∈ is → k' j = K l j) ∧ (j / 4 ∉ is → k' j = k j)
  | [], d, k, _, hu, _ => ⟨d, k, rfl, hu, fun _ => rfl, fun j => ⟨fun h => (by cases h), fun _ => rfl⟩⟩
  | i :: is, d, k, hi, hu, hC => by
    obtain ⟨hi1, hi2⟩ := hi i List.mem_cons_self
    obtain ⟨d1, B, e, h1, h2, h3, h4⟩ := getM_ok hX hm d hu hC (l + 1) i hl hi1
    have hC' : Cert Y n T (lat d1) f K := hC.same (fun _ _ _ _ _ => h2 _)
    obtain ⟨d', k', e', k1, k2, k3⟩ := gatL_ok hX hm l hl a is d1 (setCh k i (ofN B 4)) (fun j hj => hi j (List.mem_cons_of_mem _ hj)) h1 hC'
    refine ⟨d', k', ?_, k1, fun q => (k2 q).trans (h2 q), fun j => ?_⟩
    · rw [gatL, hi2, e]
      simp only [ne_eq, not_true_eq_false, if_false]
      exact e'
    · by_cases hj : j / 4 ∈ is
      · exact ⟨fun _ => (k3 j).1 hj, fun h => absurd (List.mem_cons_of_mem _ hj) h⟩
      · rw [(k3 j).2 hj]
        unfold setCh
        by_cases hji : j / 4 = i
        · rw [if_pos hji, below_ok hC l i hl hi1 B h3 h4 _ (by omega), show 4 * i + j % 4 = j by omega]
          exact ⟨fun _ => rfl, fun h => absurd (by rw [hji]; exact List.mem_cons_self) h⟩
        · rw [if_neg hji]
          refine ⟨fun h => ?_, fun _ => rfl⟩
          rcases List.mem_cons.1 h with h | h
          · exact absurd h hji
          · exact absurd h hj
theorem mem_wl (g : Nat → Option (List Int)) (n l i : Nat) : i ∈ wl g n l ↔ i < wd n l ∧ wrt g n l i = true := by
  simp [wl, List.mem_filter]
theorem wrt_lt (g : Nat → Option (List Int)) (n l i : Nat) (h : wrt g n l i = true) : i < wd n l := by
  obtain ⟨j, hj, _, rfl⟩ := (wrt_iff g n l i).1 h
  exact quart_lt n j hj l
theorem wrt_par (g : Nat → Option (List Int)) (n l i : Nat) (h : wrt g n l i = true) : wrt g n (l + 1) (i / 4) = true := by
  obtain ⟨j, hj, hg, he⟩ := (wrt_iff g n l i).1 h
  exact (wrt_iff g n (l + 1) _).2 ⟨j, hj, hg, by rw [quart_up, he]⟩
theorem gat_ok {D : Type} {Y : Sys} {X : Dsk D} {lat : D → Nat → List Int} {up : D → Prop} {n T m : Nat} {f : Nat → List Int} {K : Nat → Nat → Rf} (g : Nat → Option (List Int)) (hX : Sound X lat up m) (hm : 2 * off n (T + 1) ≤ m) :
    ∀ (l : Nat), l ≤ T → ∀ (d : D) (K0 : Nat → Nat → Rf), up d → Cert Y n T (lat d) f K → (∀ i, wrt g n l i = true → K0 l i = K l i) →
      ∃ d' K1, gat Y X n g l d K0 = (d', 0, K1) ∧ up d' ∧ (∀ q, lat d' q = lat d q) ∧ (∀ p i, l ≤ p → K1 p i = K0 p i) ∧ ∀ p i, p < l → wrt g n (p + 1) (i / 4) = true → K1 p i = K p i
  | 0, hl, d, K0, hu, hC, h0 => ⟨d, K0, rfl, hu, fun _ => rfl, fun _ _ _ => rfl, fun _ _ hp => by omega⟩
  | l + 1, hl, d, K0, hu, hC, h0 => by
    obtain ⟨d1, k', e, h1, h2, h3⟩ := gatL_ok hX hm l hl (K0 (l + 1)) (wl g n (l + 1)) d (K0 l) (fun i hi => ⟨((mem_wl g n (l + 1) i).1 hi).1, h0 i ((mem_wl g n (l + 1) i).1 hi).2⟩) hu hC
    have hC' : Cert Y n T (lat d1) f K := hC.same (fun _ _ _ _ _ => h2 _)
    have key : ∀ i, wrt g n (l + 1) (i / 4) = true → k' i = K l i := fun i hi => (h3 i).1 ((mem_wl g n (l + 1) _).2 ⟨wrt_lt g n (l + 1) _ hi, hi⟩)
    obtain ⟨d', K1, e', k1, k2, k3, k4⟩ := gat_ok g hX hm l (by omega) d1 (setL K0 l k') h1 hC' (fun i hi => by rw [setL, if_pos rfl]; exact key i (wrt_par g n l i hi))
    refine ⟨d', K1, ?_, k1, fun q => (k2 q).trans (h2 q), fun p i hp => ?_, fun p i hp hw => ?_⟩
    · rw [gat, e]
      simp only [ne_eq, not_true_eq_false, if_false]
      exact e'
    · rw [k3 p i (by omega), setL, if_neg (by omega)]
    · by_cases hpl : p = l
      · subst hpl
        rw [k3 p i (Nat.le_refl _), setL, if_pos rfl]
        exact key i hw
      · exact k4 p i (by omega) hw
end Go.Proofs.YthbbijaikcmaeaaGreatDoor.Plain
namespace Go.Proofs.YthbbijaikcmaeaaGreatDoor.Plain
set_option maxRecDepth 100000
set_option linter.unusedVariables false
open Go.RowKit
def Rel (g : Nat → Option (List Int)) (n T l i : Nat) : Prop := wrt g n l i = true ∨ (l < T ∧ wrt g n (l + 1) (i / 4) = true)
structure Wd {D : Type} (Y : Sys) (lat : D → Nat → List Int) (up : D → Prop) (n T : Nat) (f : Nat → List Int) (K : Nat → Nat → Rf) (g : Nat → Option (List Int)) (ver : Nat → Nat → Int) (d0 : D) (dn : List (Nat × Nat)) (d : D) (Kc : Nat → Nat → Rf) : Prop where
  up : up d
  kn : ∀ l i, l ≤ T → Rel g n T l i → Kc l i = if (l, i) ∈ dn then newK Y n K g ver l i else K l i
  new : ∀ l i, (l, i) ∈ dn → lat d (np n K l i) = Y.sl (np n K l i) (ver l i) (body (newF f g) (newK Y n K g ver) l i)
  old : ∀ q, (∀ l i, (l, i) ∈ dn → q ≠ np n K l i) → lat d q = lat d0 q
theorem pair_mid {α : Type} {R : α → α → Prop} {A B : List α} {x : α} (h : (A ++ x :: B).Pairwise R) : (∀ a ∈ A, R a x) ∧ ∀ b ∈ B, R x b := by
  rw [List.pairwise_append] at h
  obtain ⟨_, h2, h3⟩ := h
  rw [List.pairwise_cons] at h2
  exact ⟨fun a ha => h3 a ha x List.mem_cons_self, h2.1⟩
theorem wrM_ok {D : Type} {Y : Sys} {X : Dsk D} {lat : D → Nat → List Int} {up : D → Prop} {n T m : Nat} {f : Nat → List Int} {K : Nat → Nat → Rf} (g : Nat → Option (List Int)) (ver : Nat → Nat → Int) (nx0 : Int) (d0 : D) (hX : Sound X lat up m) (hm : 2 * off n (T + 1) ≤ m)
    (its : List (Nat × Nat)) (hmem : ∀ l i, (l, i) ∈ its ↔ l ≤ T ∧ wrt g n l i = true) (hord : its.Pairwise fun a b => itm n a.1 a.2 < itm n b.1 b.2) (hver : ∀ dn t l i, its = dn ++ (l, i) :: t → ver l i = nx0 + (dn.length : Int)) :
    ∀ (t dn : List (Nat × Nat)) (d : D) (Kc : Nat → Nat → Rf), its = dn ++ t → Wd Y lat up n T f K g ver d0 dn d Kc →
      ∃ d' K', wrM Y X n g t d (nx0 + (dn.length : Int)) Kc = (d', nx0 + (its.length : Int), 0, K') ∧ Wd Y lat up n T f K g ver d0 its d' K'
  | [], dn, d, Kc, e, h => by
    rw [List.append_nil] at e
    subst e
    exact ⟨d, Kc, rfl, h⟩
  | (l, i) :: t, dn, d, Kc, e, h => by
    obtain ⟨o1, o2⟩ := pair_mid (e ▸ hord)
    have hin : (l, i) ∈ its := by rw [e]; exact List.mem_append_right _ List.mem_cons_self
    obtain ⟨hl, hw⟩ := (hmem l i).1 hin
    have hi := wrt_lt g n l i hw
    have hnd : (l, i) ∉ dn := fun hc => Nat.lt_irrefl _ (o1 _ hc)
    have hkc : Kc l i = K l i := by rw [h.kn l i hl (.inl hw), if_neg hnd]
    have hnp : np n Kc l i = np n K l i := by unfold np; rw [hkc]
    have hv := hver dn t l i e
    have hb : wb g Kc l i = body (newF f g) (newK Y n K g ver) l i := by
      cases l with
      | zero =>
        obtain ⟨j, _, hg, he⟩ := (wrt_iff g n 0 i).1 hw
        have he' : j = i := by simpa using he
        subst he'
        obtain ⟨b, hb⟩ := Option.isSome_iff_exists.1 hg
        simp [wb, body, newF, hb]
      | succ p =>
        have key : ∀ k, k < 4 → Kc p (4 * i + k) = newK Y n K g ver p (4 * i + k) := by
          intro k hk
          have hdiv : (4 * i + k) / 4 = i := by omega
          rw [h.kn p (4 * i + k) (by omega) (.inr ⟨by omega, by rw [hdiv]; exact hw⟩)]
          cases hwk : wrt g n p (4 * i + k) with
          | false =>
            rw [newK_no Y n K g ver p _ hwk]
            split <;> rfl
          | true =>
            have hc := wrt_lt g n p _ hwk
            have hlt : itm n p (4 * i + k) < itm n (p + 1) i := by unfold itm; rw [off]; omega
            have hmm : (p, 4 * i + k) ∈ dn ++ (p + 1, i) :: t := by rw [← e]; exact (hmem p _).2 ⟨by omega, hwk⟩
            rcases List.mem_append.1 hmm with q | q
            · rw [if_pos q]
            · rcases List.mem_cons.1 q with q | q
              · simp only [Prod.mk.injEq] at q; omega
              · have := o2 _ q; simp only at this; omega
        have k0 := key 0 (by omega)
        rw [Nat.add_zero] at k0
        simp only [wb, body, chd, k0, key 1 (by omega), key 2 (by omega), key 3 (by omega)]
    have hp : np n K l i < m := by
      have := itm_lt n T l i hl hi
      have := ns_lt (K l i)
      unfold np
      omega
    obtain ⟨d1, e1, u1, l1⟩ := hX.wr d (np n K l i) (Y.sl (np n K l i) (ver l i) (body (newF f g) (newK Y n K g ver) l i)) h.up hp
    have hr : newK Y n K g ver l i = ⟨Y.hs l (np n K l i) (Y.sl (np n K l i) (ver l i) (body (newF f g) (newK Y n K g ver) l i)), 2 * ver l i + (ns (K l i) : Int)⟩ := newK_yes Y n K f g ver l i hw
    have h' : Wd Y lat up n T f K g ver d0 (dn ++ [(l, i)]) d1 (setK Kc l i (newK Y n K g ver l i)) := by
      refine ⟨u1, fun p j hp' hrel => ?_, fun p j hpj => ?_, fun q hq => ?_⟩
      · unfold setK
        by_cases hpj : p = l ∧ j = i
        · obtain ⟨rfl, rfl⟩ := hpj
          rw [if_pos ⟨rfl, rfl⟩, if_pos (by simp)]
        · rw [if_neg hpj, h.kn p j hp' hrel]
          have : (p, j) ∈ dn ++ [(l, i)] ↔ (p, j) ∈ dn := by
            simp only [List.mem_append, List.mem_singleton, Prod.mk.injEq]
            exact ⟨fun hh => hh.resolve_right hpj, .inl⟩
          simp only [this]
      · rw [l1]
        rcases List.mem_append.1 hpj with q | q
        · have hne : np n K p j ≠ np n K l i := by
            intro ee
            have hpi : (p, j) ∈ its := by rw [e]; exact List.mem_append_left _ q
            obtain ⟨hp1, hp2⟩ := (hmem p j).1 hpi
            obtain ⟨rfl, rfl⟩ := np_inj n K p l j i (wrt_lt g n p j hp2) hi ee
            exact hnd q
          rw [if_neg hne]
          exact h.new p j q
        · simp only [List.mem_singleton, Prod.mk.injEq] at q
          obtain ⟨rfl, rfl⟩ := q
          rw [if_pos rfl]
      · rw [l1, if_neg (hq l i (by simp))]
        exact h.old q (fun p j hpj => hq p j (List.mem_append_left _ hpj))
    obtain ⟨d', K', e', hW⟩ := wrM_ok g ver nx0 d0 hX hm its hmem hord hver t (dn ++ [(l, i)]) d1 _ (by rw [e]; simp) h'
    refine ⟨d', K', ?_, hW⟩
    rw [wrM, hnp, hb, hkc, ← hv, e1]
    simp only [ne_eq, not_true_eq_false, if_false]
    rw [← hr]
    rw [show nx0 + ((dn ++ [(l, i)]).length : Int) = ver l i + 1 by rw [hv]; simp; omega] at e'
    exact e'
def verOf (its : List (Nat × Nat)) (nx : Int) (l i : Nat) : Int := nx + (its.idxOf (l, i) : Int)
theorem verOf_at (n : Nat) (its : List (Nat × Nat)) (nx : Int) (hord : its.Pairwise fun a b => itm n a.1 a.2 < itm n b.1 b.2) (dn t : List (Nat × Nat)) (l i : Nat) (e : its = dn ++ (l, i) :: t) : verOf its nx l i = nx + (dn.length : Int) := by
  obtain ⟨o1, _⟩ := pair_mid (e ▸ hord)
  have hnd : (l, i) ∉ dn := fun hc => Nat.lt_irrefl _ (o1 _ hc)
  unfold verOf
  rw [e, List.idxOf_append, if_neg hnd, List.idxOf_cons_self]
  omega
theorem verOf_bd (its : List (Nat × Nat)) (nx : Int) (h1 : 1 ≤ nx) (h2 : nx + (its.length : Int) ≤ 9223372036854775807) (l i : Nat) : 1 ≤ verOf its nx l i ∧ verOf its nx l i ≤ 9223372036854775807 := by
  have := List.idxOf_le_length (a := (l, i)) (l := its)
  unfold verOf
  omega
theorem update_ok {D : Type} {Y : Sys} {X : Dsk D} {lat : D → Nat → List Int} {up : D → Prop} {n T m : Nat} {f : Nat → List Int} {K : Nat → Nat → Rf} (g : Nat → Option (List Int)) (nx : Int) (hX : Sound X lat up m) (hm : 2 * off n (T + 1) ≤ m) (hT : wd n T = 1)
    (its : List (Nat × Nat)) (hmem : ∀ l i, (l, i) ∈ its ↔ l ≤ T ∧ wrt g n l i = true) (hord : its.Pairwise fun a b => itm n a.1 a.2 < itm n b.1 b.2) (hg : ∀ j b, g j = some b → b.length = 160 ∧ Byt b) (h1 : 1 ≤ nx) (h2 : nx + (its.length : Int) ≤ 9223372036854775807)
    (d : D) (hu : up d) (hC : Cert Y n T (lat d) f K) (K0 : Nat → Nat → Rf) (hK0 : K0 T 0 = K T 0) :
    ∃ d1 K1 d' K', gat Y X n g T d K0 = (d1, 0, K1) ∧ wrM Y X n g its d1 nx K1 = (d', nx + (its.length : Int), 0, K') ∧ up d' ∧ (∀ q, lat d1 q = lat d q) ∧
      (its ≠ [] → K' T 0 = newK Y n K g (verOf its nx) T 0) ∧ (its = [] → K' T 0 = K T 0) ∧
      (∀ l i, l ≤ T → wrt g n l i = true → lat d' (np n K l i) = Y.sl (np n K l i) (verOf its nx l i) (body (newF f g) (newK Y n K g (verOf its nx)) l i)) ∧
      (∀ q, (∀ l i, l ≤ T → wrt g n l i = true → q ≠ np n K l i) → lat d' q = lat d q) ∧
      Cert Y n T (lat d') (newF f g) (newK Y n K g (verOf its nx)) ∧ Cert Y n T (lat d') f K := by
  have top0 : ∀ i, wrt g n T i = true → i = 0 := fun i hi => by have := wrt_lt g n T i hi; omega
  obtain ⟨d1, K1, e1, u1, l1, k1, k2⟩ := gat_ok g hX hm T (Nat.le_refl _) d K0 hu hC (fun i hi => by rw [top0 i hi]; exact hK0)
  have hW : Wd Y lat up n T f K g (verOf its nx) d1 [] d1 K1 := by
    refine ⟨u1, fun l i hl hr => ?_, fun _ _ hh => (by cases hh), fun _ _ => rfl⟩
    rw [if_neg (by simp)]
    by_cases hlT : l = T
    · subst hlT
      rcases hr with hr | hr
      · rw [top0 i hr, k1 l 0 (Nat.le_refl _)]; exact hK0
      · omega
    · refine k2 l i (by omega) ?_
      rcases hr with hr | hr
      · exact wrt_par g n l i hr
      · exact hr.2
  obtain ⟨d', K', e', hw'⟩ := wrM_ok g (verOf its nx) nx d1 hX hm its hmem hord (fun dn t l i e => verOf_at n its nx hord dn t l i e) its [] d1 K1 rfl hW
  have hnew : ∀ l i, l ≤ T → wrt g n l i = true → lat d' (np n K l i) = Y.sl (np n K l i) (verOf its nx l i) (body (newF f g) (newK Y n K g (verOf its nx)) l i) := fun l i hl hw => hw'.new l i ((hmem l i).2 ⟨hl, hw⟩)
  have hold : ∀ q, (∀ l i, l ≤ T → wrt g n l i = true → q ≠ np n K l i) → lat d' q = lat d q := fun q hq => (hw'.old q (fun l i hli => hq l i ((hmem l i).1 hli).1 ((hmem l i).1 hli).2)).trans (l1 q)
  have hcount : ∀ l i, l ≤ T → i < wd n l → (K l i).s ≠ 0 → lat d' (pc n l i (K l i)) = lat d (pc n l i (K l i)) := fun l i hl hi h0 => hold _ (fun p j hp hw => (np_ne n K p l j i (wrt_lt g n p j hw) hi h0).symm)
  refine ⟨d1, K1, d', K', e1, ?_, hw'.up, l1, fun hne => ?_, fun he => ?_, hnew, hold, hC.update g _ hg (fun l i => verOf_bd its nx h1 h2 l i) (fun l i hl _ hw => hnew l i hl hw) hcount, hC.same hcount⟩
  · have hz : nx + (([] : List (Nat × Nat)).length : Int) = nx := by simp
    rw [hz] at e'
    exact e'
  · obtain ⟨x, hx⟩ := List.exists_mem_of_ne_nil its hne
    obtain ⟨hl, hw⟩ := (hmem x.1 x.2).1 hx
    obtain ⟨j, hj, hgj, _⟩ := (wrt_iff g n x.1 x.2).1 hw
    have hwT : wrt g n T 0 = true := (wrt_iff g n T 0).2 ⟨j, hj, hgj, by have := quart_lt n j hj T; rw [hT] at this; exact Nat.lt_one_iff.1 this⟩
    rw [hw'.kn T 0 (Nat.le_refl _) (.inl hwT), if_pos ((hmem T 0).2 ⟨Nat.le_refl _, hwT⟩)]
  · subst he
    simp only [wrM, Prod.mk.injEq] at e'
    rw [← e'.2.2.2, k1 T 0 (Nat.le_refl _)]
    exact hK0
end Go.Proofs.YthbbijaikcmaeaaGreatDoor.Plain
