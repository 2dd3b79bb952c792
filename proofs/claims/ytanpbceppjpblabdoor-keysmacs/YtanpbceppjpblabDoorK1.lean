/-
  HMAC as plain reckoning, and what the Go function whole of package keys answers: a key of 64 bytes.
-/
import Derived.Test.YtanpbceppjpblabDoorQ0
import Derived.Test.YtanpbceppjpblabDoorP7
namespace Go.Proofs.YtanpbceppjpblabDoor
set_option linter.unusedVariables false
open Go.RowKit Plain

/-- Noughts behind bytes, up to 64. -/
def pad64 (K : List Int) : List Int := K ++ List.replicate (64 - K.length) 0
/-- A key brought to 64 bytes. -/
def keyP (K : List Int) : List Int := if 64 < K.length then pad64 (sha K) else pad64 K
theorem length_pad64 (K : List Int) (h : K.length ≤ 64) : (pad64 K).length = 64 := by simp [pad64]; omega
theorem byt_pad64 (K : List Int) (h : Byt K) : Byt (pad64 K) := byt_app _ _ h (byt_zeros _)
theorem length_keyP (K : List Int) : (keyP K).length = 64 := by
  unfold keyP
  split
  · exact length_pad64 _ (by rw [length_sha]; omega)
  · exact length_pad64 _ (by omega)
theorem byt_keyP (K : List Int) (h : Byt K) : Byt (keyP K) := by
  unfold keyP
  split
  · exact byt_pad64 _ (byt_sha K)
  · exact byt_pad64 _ h
def xr (x b : Int) : Int := bits .xor .u8 b x
/-- Each byte xor another. -/
def ovr (K : List Int) (x : Int) : List Int := K.map (xr x)
def mac (K M : List Int) : List Int := sha (ovr (keyP K) 92 ++ sha (ovr (keyP K) 54 ++ M))
theorem xr_bd (x b : Int) : 0 ≤ xr x b ∧ xr x b ≤ 255 := by
  unfold xr Go.bits
  rw [IntKind.wrap_u8]
  omega
theorem length_ovr (K : List Int) (x : Int) : (ovr K x).length = K.length := by simp [ovr]
theorem byt_ovr (K : List Int) (x : Int) : Byt (ovr K x) := by
  intro i
  unfold ovr
  simp only [List.getD, List.getElem?_map]
  cases K[i]? with
  | none => simp
  | some b => exact xr_bd x b
theorem length_mac (K M : List Int) : (mac K M).length = 32 := length_sha _
theorem byt_mac (K M : List Int) : Byt (mac K M) := byt_sha _

theorem size5 : (Tryd.prog.info? 5).map (·.size) = some 1 := by kernel_rfl
theorem bytes_src {w : World} {a : Option Addr} {len : Nat} {L : List Int} (h : Bytes w a len L) (hp : 0 < len) : ∃ ad, a = some ad ∧ ∀ j v, (L.map (Value.int .u8))[j]? = some v → w.cell? (ad.add j) = some v := by
  obtain ⟨b, off, rfl, _, _⟩ := h.2.2 hp
  exact ⟨_, rfl, bytes_news h⟩
theorem copy64 (K : List Int) (h : K.length ≤ 64) : (splice (fil8 [] 64).toList 0 (K.map (Value.int .u8))).toArray = u8s (pad64 K) := by
  have e : (fil8 [] 64).toList = List.replicate 64 (Value.int .u8 0) := rfl
  rw [e, splice, List.take_zero, List.nil_append, Nat.zero_add, List.length_map, List.drop_replicate]
  simp [u8s, pad64]
theorem lay2' {w : World} {o p : Obj} {S : Nat} (h : w.heap.size = S) : ((w.alloc o).alloc p).heap[S]? = some o ∧ ((w.alloc o).alloc p).heap[S + 1]? = some p ∧ Below S w ((w.alloc o).alloc p) :=
  ⟨al_old (al_at h), al_at (by simp [h]), by rw [← h]; exact ((Below.refl _ _).alloc (Nat.le_refl _) _).alloc (by simp) _⟩
/-- What the blocks of whole hold behind the copy. -/
def Wh (w x : World) (S : Nat) (X : List Int) : Prop := (u8s X).size = 64 ∧ (u8s X).all (·.oneCell') = true ∧ x.heap[S + 1]? = some (.cells (u8s X) 38 (0, 0)) ∧ x.heap[S]? = some (.cells (fil8 [] 64) 38 (0, 0)) ∧ Below S w x
theorem whole_of {w w1 w3 : World} {o p : Obj} (h : w1.heap[w.heap.size]? = some o ∧ w1.heap[w.heap.size + 1]? = some p ∧ Below w.heap.size w w1) (hb : Below w1.heap.size w1 w3) :
    Box (w3.heap[w.heap.size]? = some o ∧ w3.heap[w.heap.size + 1]? = some p ∧ Below w.heap.size w w3) := by
  have l1 := (Array.getElem?_eq_some_iff.1 h.2.1).1
  exact ⟨(hb.block _ (by omega)).trans h.1, (hb.block _ l1).trans h.2.1, h.2.2.trans (hb.mono h.2.2.size)⟩
theorem whole_mid {w w3 z : World} {o p : Obj} {D : List Int} (h : Way w3 z [(w3.heap.size, D)]) (k : w3.heap[w.heap.size]? = some o ∧ w3.heap[w.heap.size + 1]? = some p ∧ Below w.heap.size w w3) (hD : Byt D) :
    Box ((z.heap[w.heap.size]? = some o ∧ z.heap[w.heap.size + 1]? = some p ∧ Below w.heap.size w z) ∧ Bytes z (some ⟨w3.heap.size, 0, none⟩) 32 D) := by
  have hb := h.2
  have l1 := (Array.getElem?_eq_some_iff.1 k.2.1).1
  have hs := h.1 _ (List.mem_singleton.2 rfl)
  refine ⟨⟨(hb.block _ (by omega)).trans k.1, (hb.block _ l1).trans k.2.1, k.2.2.trans (hb.mono k.2.2.size)⟩, ?_⟩
  have := bytes_of_row hD hs.2
  rwa [hs.1] at this
theorem fil64 : fil8 [] 64 = #[.int .u8 0, .int .u8 0, .int .u8 0, .int .u8 0, .int .u8 0, .int .u8 0, .int .u8 0, .int .u8 0, .int .u8 0, .int .u8 0, .int .u8 0, .int .u8 0, .int .u8 0, .int .u8 0, .int .u8 0, .int .u8 0, .int .u8 0, .int .u8 0, .int .u8 0, .int .u8 0, .int .u8 0, .int .u8 0, .int .u8 0, .int .u8 0, .int .u8 0, .int .u8 0, .int .u8 0, .int .u8 0, .int .u8 0, .int .u8 0, .int .u8 0, .int .u8 0, .int .u8 0, .int .u8 0, .int .u8 0, .int .u8 0, .int .u8 0, .int .u8 0, .int .u8 0, .int .u8 0, .int .u8 0, .int .u8 0, .int .u8 0, .int .u8 0, .int .u8 0, .int .u8 0, .int .u8 0, .int .u8 0, .int .u8 0, .int .u8 0, .int .u8 0, .int .u8 0, .int .u8 0, .int .u8 0, .int .u8 0, .int .u8 0, .int .u8 0, .int .u8 0, .int .u8 0, .int .u8 0, .int .u8 0, .int .u8 0, .int .u8 0, .int .u8 0] := rfl
theorem fil64_list : (fil8 [] 64).toList.length = 64 := rfl

set_option maxRecDepth 20000 in
set_option maxHeartbeats 400000 in
theorem whole_short (a : Option Addr) (len cap : Nat) (K : List Int) (w : World) (hp : (⟨a, len, cap, K⟩ : Pc).ok w) (hl : len ≤ 64) :
    Calls Tryd.prog 14 #[.slice a len cap] w fun e w' => e = .returned (.agg (u8s (keyP K))) ∧ Below w.heap.size w w' := by
  have hKl := hp.1.1
  have h1 : ¬ 64 < (len : Int) := by omega
  have HK : Box (keyP K = pad64 K) := ⟨by rw [keyP, if_neg (by rw [hKl]; show ¬ 64 < len; omega)]⟩
  have HZ : Hid _ := fil64
  have HB : Box (∀ x, Below w.heap.size w x → Bytes x a len K) := ⟨fun x hx => hp.1.below hx⟩
  have hKl' : K.length = len := hKl
  have hcl : (K.map (Value.int .u8)).length = Nat.min len 64 := by rw [List.length_map, hKl']; exact (Nat.min_eq_left hl).symm
  have hK64 : K.length ≤ 64 := by omega
  clear hp hKl
  have HA : Box (∀ o p : Obj, ((w.alloc o).alloc p).heap[w.heap.size]? = some o ∧ ((w.alloc o).alloc p).heap[w.heap.size + 1]? = some p ∧ Below w.heap.size w ((w.alloc o).alloc p)) := ⟨fun o p => lay2' rfl⟩
  obtain ⟨X, HX⟩ : ∃ X, Box (pad64 K = X) := ⟨_, ⟨rfl⟩⟩
  have HWH : Box (∀ (w1 w2 : World), (w1.heap[w.heap.size]? = some (.cells (fil8 [] 64) 38 (0, 0)) ∧ w1.heap[w.heap.size + 1]? = some (.cells (fil8 [] 64) 38 (0, 0)) ∧ Below w.heap.size w w1) → w2.heap[w.heap.size + 1]? = some (.cells (splice (fil8 [] 64).toList 0 (K.map (Value.int .u8))).toArray 38 (0, 0)) → Below (w.heap.size + 1) w1 w2 → Wh w w2 w.heap.size X) := ⟨by
    intro w1 w2 h1 h2 h3
    refine ⟨by rw [← HX.out, size_u8s, length_pad64 K hK64], all_u8s X, by rw [h2, copy64 K hK64, HX.out], (h3.block _ (Nat.lt_succ_self _)).trans h1.1, h1.2.2.trans (h3.mono (Nat.le_succ _))⟩⟩
  go_enter Tryd.func14, Tryd.ntmps14
  go_wp2_with (first
    | (refine wpList_load_row rfl 38 (.tmp 3) rfl (w.heap.size + 1) rfl 38 (u8s X) (0, 0) _ HF.out.2.2.1 Tryd.underlying38 rfl (by rw [HF.out.1]; kernel_rfl) ?_)
    | (refine wpList_store_row rfl 38 (.tmp 2) (.tmp 14) rfl w.heap.size (u8s X) rfl rfl 38 (fil8 [] 64) HF.out.2.2.2.1 (by rw [HF.out.1]; kernel_rfl) (by rw [HF.out.1]; rfl) HF.out.2.1 ?_)
    | (refine wpList_copy_splice rfl (.tmp 11) (.tmp 12) 22 22 rfl 5 Tryd.underlying22 size5 _ _ _ _ _ _ rfl rfl (w.heap.size + 1) 0 (fil8 [] 64).toList 38 (HA.out _ _).2.1 (K.map (Value.int .u8)) hcl (fun hq => ⟨rfl, bytes_src (HB.out _ (HA.out _ _).2.2) (by rw [List.length_map] at hq; omega)⟩) (by rw [fil64_list, List.length_map]; omega) (ints_oneCell _ _) (w.heap.size + 1) _ (Below.refl _ _) (Nat.le_refl _) ?_; intro w2 HG2 hB2; have HF : Box (Wh w w2 w.heap.size X) := ⟨HWH.out _ _ (HA.out _ _) HG2.out hB2⟩; clear HG2 hB2))
  (try simp only [Exit.inBlock, Exit.then])
  refine bodyPost_ret (results_cell_row (p := 2) (ty := 38) rfl _ _ w.heap.size 38 (u8s X) (0, 0) _ rfl (setRow_heap _ _ _ _ _ _ HF.out.2.2.2.1) Tryd.underlying38 rfl (by rw [HF.out.1]; kernel_rfl)) rfl ?_
  exact ⟨by rw [HK.out, HX.out], below_setRow HF.out.2.2.2.2 (Nat.le_refl _) _⟩

set_option maxRecDepth 20000 in
set_option maxHeartbeats 400000 in
theorem whole_long (a : Option Addr) (len cap : Nat) (K : List Int) (w : World) (hT : Tabs w) (hp : (⟨a, len, cap, K⟩ : Pc).ok w) (hl : 64 < len) (hl' : len ≤ 900000) :
    Calls Tryd.prog 14 #[.slice a len cap] w fun e w' => e = .returned (.agg (u8s (keyP K))) ∧ Below w.heap.size w w' := by
  have hKl := hp.1.1
  have h1 : 64 < (len : Int) := by omega
  obtain ⟨D, HD⟩ : ∃ D, Box (sha K = D) := ⟨_, ⟨rfl⟩⟩
  have hDl : D.length = 32 := by rw [← HD.out]; exact length_sha K
  have hDb : Byt D := by rw [← HD.out]; exact byt_sha K
  obtain ⟨X, HX⟩ : ∃ X, Box (pad64 D = X) := ⟨_, ⟨rfl⟩⟩
  have HK : Box (keyP K = X) := ⟨by rw [keyP, if_pos (by rw [hKl]; exact hl), HD.out, HX.out]⟩
  have HO : Box (∀ x, Below w.heap.size w x → Calls Tryd.prog 19 #[.slice a len cap] x fun e w' => e = .returned (.agg (u8s D)) ∧ Below x.heap.size x w') := ⟨fun x hx => of_is a len cap K D x (hT.below hx) (hp.below hx) hl' HD.out⟩
  have hcl : (D.map (Value.int .u8)).length = Nat.min 32 64 := by rw [List.length_map, hDl]; rfl
  clear hp hKl hT
  have HA : Box (∀ o p : Obj, ((w.alloc o).alloc p).heap[w.heap.size]? = some o ∧ ((w.alloc o).alloc p).heap[w.heap.size + 1]? = some p ∧ Below w.heap.size w ((w.alloc o).alloc p)) := ⟨fun o p => lay2' rfl⟩
  have HWH : Box (∀ (w1 w2 : World), (w1.heap[w.heap.size]? = some (.cells (fil8 [] 64) 38 (0, 0)) ∧ w1.heap[w.heap.size + 1]? = some (.cells (fil8 [] 64) 38 (0, 0)) ∧ Below w.heap.size w w1) → w2.heap[w.heap.size + 1]? = some (.cells (splice (fil8 [] 64).toList 0 (D.map (Value.int .u8))).toArray 38 (0, 0)) → Below (w.heap.size + 1) w1 w2 → Wh w w2 w.heap.size X) := ⟨by
    intro w1 w2 h1 h2 h3
    refine ⟨by rw [← HX.out, size_u8s, length_pad64 D (by omega)], all_u8s X, by rw [h2, copy64 D (by omega), HX.out], (h3.block _ (Nat.lt_succ_self _)).trans h1.1, h1.2.2.trans (h3.mono (Nat.le_succ _))⟩⟩
  go_enter Tryd.func14, Tryd.ntmps14
  go_wp2_with (first
    | (refine wpList_load_row rfl 38 (.tmp 3) rfl (w.heap.size + 1) rfl 38 (u8s X) (0, 0) _ HF.out.2.2.1 Tryd.underlying38 rfl (by rw [HF.out.1]; kernel_rfl) ?_)
    | (refine wpList_store_row rfl 38 (.tmp 2) (.tmp 14) rfl w.heap.size (u8s X) rfl rfl 38 (fil8 [] 64) HF.out.2.2.2.1 (by rw [HF.out.1]; kernel_rfl) (by rw [HF.out.1]; rfl) HF.out.2.1 ?_)
    | (refine wpList_copy_splice rfl (.tmp 11) (.tmp 12) 22 22 rfl 5 Tryd.underlying22 size5 _ _ _ _ _ _ rfl rfl (w.heap.size + 1) 0 (fil8 [] 64).toList 38 H5.out.1.2.1 (D.map (Value.int .u8)) hcl (fun _ => ⟨rfl, bytes_src H5.out.2 (by omega)⟩) (by rw [fil64_list, List.length_map]; omega) (ints_oneCell _ _) (w.heap.size + 1) _ (Below.refl _ _) (Nat.le_refl _) ?_; intro w6 HG2 hB2; have HF : Box (Wh w w6 w.heap.size X) := ⟨HWH.out _ _ H5.out.1 HG2.out hB2⟩; clear HG2 hB2)
    | (refine wpList_new25 _ w3 [] D hDl H3.out ?old ?hold rfl (.tmp 4) (.tmp 9) rfl rfl rfl ?hv ?_; (case hv => rfl); (case hold => rfl); intro z4 H4; have H5 := whole_mid H4.out H2.out hDb)
    | (go_at_call 19; refine Calls.mono (HO.out _ (HA.out _ _).2.2) ?_; rintro e w3 ⟨rfl, hb3⟩; have H2 := whole_of (HA.out _ _) hb3; have H3 : Box (Way w3 w3 []) := ⟨Stand.nil _, Below.refl _ _⟩; clear hb3))
  (try simp only [Exit.inBlock, Exit.then])
  refine bodyPost_ret (results_cell_row (p := 2) (ty := 38) rfl _ _ w.heap.size 38 (u8s X) (0, 0) _ rfl (setRow_heap _ _ _ _ _ _ HF.out.2.2.2.1) Tryd.underlying38 rfl (by rw [HF.out.1]; kernel_rfl)) rfl ?_
  exact ⟨by rw [HK.out], below_setRow HF.out.2.2.2.2 (Nat.le_refl _) _⟩
theorem whole_any (a : Option Addr) (len cap : Nat) (K : List Int) (w : World) (hT : Tabs w) (hp : (⟨a, len, cap, K⟩ : Pc).ok w) (hl : len ≤ 900000) :
    Calls Tryd.prog 14 #[.slice a len cap] w fun e w' => e = .returned (.agg (u8s (keyP K))) ∧ Below w.heap.size w w' := by
  by_cases h : len ≤ 64
  · exact whole_short a len cap K w hp h
  · exact whole_long a len cap K w hT hp (by omega) hl
end Go.Proofs.YtanpbceppjpblabDoor
