/-
  What the Go functions of package seal answer: how many bytes fit, the stream laid over bytes, and Seal, for every key, place, version and all bytes.
-/
import Derived.Test.YtcggbnggmglphaaDoorQ19
namespace Go.Proofs.YtcggbnggmglphaaDoor.Seal.Plain
set_option maxRecDepth 100000
end Go.Proofs.YtcggbnggmglphaaDoor.Seal.Plain
namespace Go.Proofs.YtcggbnggmglphaaDoor.Seal
set_option maxRecDepth 100000
set_option linter.unusedVariables false
open Go.RowKit Go.Proofs.YtcggbnggmglphaaDoor.Plain Go.Proofs.YtcggbnggmglphaaDoor.Seal.Plain
theorem sfits_yes (n : Int) (w : World) (h : n = 160 ∨ n = 176) : Calls Tryd.prog 64 #[.int .i64 n] w fun e w' => e = .returned (.bool true) ∧ w = w' := by
  rcases h with rfl | rfl
  all_goals
    go_enter Tryd.func64, Tryd.ntmps64
    go_wp2
    go_ret
    exact ⟨rfl, rfl⟩
set_option maxRecDepth 20000 in
set_option maxHeartbeats 1000000 in
theorem scrypt_in (K X B : List Int) (p v : Int) (a : Option Addr) (len cap : Nat) (w : World) (hKl : K.length = 32)
    (C1 : Box (∀ x, Calls Tryd.prog 74 #[.int .u32 p, .int .u64 v] x fun e w' => e = .returned (.agg (u8s X)) ∧ Below x.heap.size x w'))
    (C2 : Box (∀ x, Below w.heap.size w x → Calls Tryd.prog 73 #[.agg (u8s K), .int .u32 0, .agg (u8s X), .slice a len cap] x fun e w' => ∃ a', e = .returned (.tuple #[.slice a' len len, .int .i64 0]) ∧ Bytes w' a' len (cr K 0 X B len) ∧ Below x.heap.size x w')) :
    Calls Tryd.prog 65 #[.agg (u8s K), .int .u32 p, .int .u64 v, .slice a len cap] w fun e w' => ∃ a', e = .returned (.slice a' len len) ∧ Bytes w' a' len (cr K 0 X B len) ∧ Below w.heap.size w w' := by
  obtain ⟨S, hS⟩ : ∃ S, w.heap.size = S := ⟨_, rfl⟩
  have HS : Hid (w.heap.size = S) := hS
  have H0 : Box ((w.alloc (.cells (u8s K) 23)).heap[S]? = some (.cells (u8s K) 23 (0, 0)) ∧ Below w.heap.size w (w.alloc (.cells (u8s K) 23))) := ⟨al_at hS, (Below.refl _ _).alloc (Nat.le_refl _) _⟩
  clear hS
  go_enter Tryd.func65, Tryd.ntmps65
  go_upto_region 1 with fail
  rw [HS.out]
  generalize w.alloc (.cells (u8s K) 23) = x0 at H0 ⊢
  refine Seq.begin_any (by kernel_rfl) (fun wd hd => ?_)
  refine Seq.take_lat (i := 0) (v := .agg (u8s K)) rfl (by kernel_rfl) (by kernel_rfl) (by kernel_rfl) (fun _ _ _ h => h) (by rfl) (fun w' hLat => exec_load8 23 32 Tryd.underlying23 size32 (.tmp 4) rfl S rfl K hKl (row_on (row_on H0.out.1 hd) hLat)) ?_
  try simp only [Act.put, List.setIfInBounds_toArray, List.set_cons_zero, List.set_cons_succ, List.getElem_toArray, List.getElem_cons_zero]
  refine Seq.take_lat (i := 1) (v := ?_) rfl (by kernel_rfl) (by kernel_rfl) (by kernel_rfl) (fun _ _ _ h => h) (by rfl) ?_ ?_
  rotate_left
  · intro w' hLat; change Below _ _ _ at hLat; go_simp <;> with_reducible rfl
  try simp only [Act.put, List.setIfInBounds_toArray, List.set_cons_zero, List.set_cons_succ, List.getElem_toArray, List.getElem_cons_zero, List.getElem_cons_succ]
  refine Seq.take_lat (i := 2) (v := ?_) rfl (by kernel_rfl) (by kernel_rfl) (by kernel_rfl) (fun _ _ _ h => h) (by rfl) ?_ ?_
  rotate_left
  · intro w' hLat; change Below _ _ _ at hLat; go_simp <;> with_reducible rfl
  try simp only [Act.put, List.setIfInBounds_toArray, List.set_cons_zero, List.set_cons_succ, List.getElem_toArray, List.getElem_cons_zero, List.getElem_cons_succ]
  refine Seq.take_lat (i := 4) (v := ?_) rfl (by kernel_rfl) (by kernel_rfl) (by kernel_rfl) (fun _ _ _ h => h) (by rfl) ?_ ?_
  rotate_left
  · intro w' hLat; change Below _ _ _ at hLat; go_simp <;> with_reducible rfl
  try simp only [Act.put, List.setIfInBounds_toArray, List.set_cons_zero, List.set_cons_succ, List.getElem_toArray, List.getElem_cons_zero, List.getElem_cons_succ]
  refine Seq.only_lat (i := 3) rfl (by kernel_rfl) (fun KK hK => ?_)
  rw [if_pos (by rfl)]
  go_simp
  refine Calls.mono (C1.out wd) ?_
  rintro e w2 ⟨rfl, hb2⟩
  have H2 : Box (Below w.heap.size w w2) := ⟨below_to (below_to H0.out.2 hd) hb2⟩
  refine hK.out _ _ hb2 ?_
  clear hb2
  clear hK KK
  try simp only [Act.put, List.setIfInBounds_toArray, List.set_cons_zero, List.set_cons_succ, List.getElem_toArray, List.getElem_cons_zero, List.getElem_cons_succ]
  refine Seq.only_lat (i := 5) rfl (by kernel_rfl) (fun KK hK => ?_)
  rw [if_pos (by rfl)]
  go_simp
  refine Calls.mono (C2.out w2 H2.out) ?_
  rintro e w3 ⟨a3, rfl, hB3, hb3⟩
  have H3 : Box (Bytes w3 a3 len (cr K 0 X B len) ∧ Below w.heap.size w w3) := ⟨hB3, below_to H2.out hb3⟩
  refine hK.out _ _ hb3 ?_
  clear hb3 hB3
  clear hK KK
  try simp only [Act.put, List.setIfInBounds_toArray, List.set_cons_zero, List.set_cons_succ, List.getElem_toArray, List.getElem_cons_zero, List.getElem_cons_succ]
  refine Seq.take_lat (i := 6) (v := ?_) rfl (by kernel_rfl) (by kernel_rfl) (by kernel_rfl) (fun _ _ _ h => h) (by rfl) ?_ ?_
  rotate_left
  · intro w' hLat; change Below _ _ _ at hLat; go_simp <;> with_reducible rfl
  try simp only [Act.put, List.setIfInBounds_toArray, List.set_cons_zero, List.set_cons_succ, List.getElem_toArray, List.getElem_cons_zero, List.getElem_cons_succ]
  refine Seq.take_lat (i := 7) (v := ?_) rfl (by kernel_rfl) (by kernel_rfl) (by kernel_rfl) (fun _ _ _ h => h) (by rfl) ?_ ?_
  rotate_left
  · intro w' hLat; change Below _ _ _ at hLat; go_simp <;> with_reducible rfl
  try simp only [Act.put, List.setIfInBounds_toArray, List.set_cons_zero, List.set_cons_succ, List.getElem_toArray, List.getElem_cons_zero, List.getElem_cons_succ]
  refine Seq.take_lat (i := 8) (v := ?_) rfl (by kernel_rfl) (by kernel_rfl) (by kernel_rfl) (fun _ _ _ h => h) (by rfl) ?_ ?_
  rotate_left
  · intro w' hLat; change Below _ _ _ at hLat; go_simp <;> with_reducible rfl
  try simp only [Act.put, List.setIfInBounds_toArray, List.set_cons_zero, List.set_cons_succ, List.getElem_toArray, List.getElem_cons_zero, List.getElem_cons_succ]
  refine Seq.take_lat (i := 9) (v := ?_) rfl (by kernel_rfl) (by kernel_rfl) (by kernel_rfl) (fun _ _ _ h => h) (by rfl) ?_ ?_
  rotate_left
  · intro w' hLat; change Below _ _ _ at hLat; go_simp <;> with_reducible rfl
  try simp only [Act.put, List.setIfInBounds_toArray, List.set_cons_zero, List.set_cons_succ, List.getElem_toArray, List.getElem_cons_zero, List.getElem_cons_succ]
  refine Seq.take_lat (i := 10) (v := ?_) rfl (by kernel_rfl) (by kernel_rfl) (by kernel_rfl) (fun _ _ _ h => h) (by rfl) ?_ ?_
  rotate_left
  · intro w' hLat; change Below _ _ _ at hLat; go_simp <;> with_reducible rfl
  try simp only [Act.put, List.setIfInBounds_toArray, List.set_cons_zero, List.set_cons_succ, List.getElem_toArray, List.getElem_cons_zero, List.getElem_cons_succ]
  refine wpAnyH_done (by kernel_rfl) ?_ _
  go_wp2
  go_ret
  exact ⟨a3, rfl, H3.out.1, H3.out.2⟩
theorem scrypt_any (K B : List Int) (p v : Int) (a : Option Addr) (len cap : Nat) (w : World) (hT : Tab w) (hKl : K.length = 32) (hKb : Byt K) (hp : W32 p) (hv : 0 ≤ v ∧ v ≤ 18446744073709551615) (hB : Bytes w a len B) (hl : len ≤ 1000) :
    Calls Tryd.prog 65 #[.agg (u8s K), .int .u32 p, .int .u64 v, .slice a len cap] w fun e w' => ∃ a', e = .returned (.slice a' len len) ∧ Bytes w' a' len (cr K 0 (non p v) B len) ∧ Below w.heap.size w w' :=
  scrypt_in K (non p v) B p v a len cap w hKl ⟨fun x => nonce_any p v x hp hv⟩ ⟨fun x hx => crypt_ok a len cap K (non p v) B 0 x hKb hKl (byt_non p v) (length_non p v) ⟨by omega, by omega⟩ (hT.below hx) (hB.below hx) (by omega) (by omega)⟩
/-- What is sealed. -/
def sl (K : List Int) (p v : Int) (B : List Int) : List Int := padTo (bytesOf v 8 ++ cr K 0 (non p v) B B.length) 192
theorem length_sl (K : List Int) (p v : Int) (B : List Int) : (sl K p v B).length = 192 := length_padTo _ _
theorem byt_padTo (L : List Int) (n : Nat) (h : Byt L) : Byt (padTo L n) := byt_app _ _ (byt_take L n h) (byt_zeros _)
theorem byt_sl (K : List Int) (p v : Int) (B : List Int) : Byt (sl K p v B) := byt_padTo _ _ (byt_app _ _ (bytesOf_bd v 8) (byt_cr _ _ _ _ _))
theorem out_low {w0 w w' : World} {a : Option Addr} {n c : Nat} {L : List Int} (h : Out w w' a n c L) (hb : Below w0.heap.size w0 w) : Out w0 w' a n c L := by
  refine ⟨h.1, ⟨h.2.1.1, ?_⟩, hb.trans (h.2.2.mono hb.size)⟩
  rcases h.2.1.2 with h3 | ⟨g, cap', cur, h3, hb', r⟩
  · exact .inl h3
  · exact .inr ⟨g, cap', cur, h3, Nat.le_trans hb.size hb', r⟩
set_option maxRecDepth 20000 in
set_option maxHeartbeats 2000000 in
theorem seal_in (K C : List Int) (p v : Int) (a : Option Addr) (len cap : Nat) (w : World) (hKl : K.length = 32) (hC : Byt C) (hl : len ≤ 184) (hv0 : ¬ v = 0) (hv1 : ¬ v = 18446744073709551615) (hv : 0 ≤ v ∧ v ≤ 18446744073709551615)
    (HF : Box (∀ x, Calls Tryd.prog 64 #[.int .i64 (len : Int)] x fun e w' => e = .returned (.bool true) ∧ x = w'))
    (C1 : Box (∀ x, Below w.heap.size w x → Calls Tryd.prog 65 #[.agg (u8s K), .int .u32 p, .int .u64 v, .slice a len cap] x fun e w' => ∃ a', e = .returned (.slice a' len len) ∧ Bytes w' a' len C ∧ Below x.heap.size x w')) :
    Calls Tryd.prog 45 #[.agg (u8s K), .int .u32 p, .int .u64 v, .slice a len cap] w fun e w' => ∃ g, e = .returned (.tuple #[.slice (some ⟨g, 0, none⟩) 192 192, .int .i64 0]) ∧ Out w w' (some ⟨g, 0, none⟩) 192 192 (padTo (bytesOf v 8 ++ C) 192) := by
  obtain ⟨S, hS⟩ : ∃ S, w.heap.size = S := ⟨_, rfl⟩
  have HS : Hid (w.heap.size = S) := hS
  have H0 : Box ((w.alloc (.cells (u8s K) 23)).heap[S]? = some (.cells (u8s K) 23 (0, 0)) ∧ Below w.heap.size w (w.alloc (.cells (u8s K) 23))) := ⟨al_at hS, (Below.refl _ _).alloc (Nat.le_refl _) _⟩
  have g0 : (v == 0) = false := by simpa using hv0
  have g1 : (v == 18446744073709551615) = false := by simpa using hv1
  have C2 : Box (∀ x, Calls Tryd.prog 40 #[.int .u64 v, .int .i64 8] x fun e w' => ∃ g, e = .returned (.slice (some ⟨g, 0, none⟩) 8 8) ∧ Out x w' (some ⟨g, 0, none⟩) 8 8 (bytesOf v 8)) := ⟨fun x => put_ok v 8 x hv.1 hv.2 (by omega) (by omega)⟩
  have C3 : Box (∀ x a c, Bytes x a (8 + len) (bytesOf v 8 ++ C) → Calls Tryd.prog 66 #[.slice a (8 + len) c, .int .i64 192] x fun e w' => ∃ g, e = .returned (.slice (some ⟨g, 0, none⟩) 192 192) ∧ Out x w' (some ⟨g, 0, none⟩) 192 192 (padTo (bytesOf v 8 ++ C) 192)) := ⟨fun x a c hx => pad_ok a (8 + len) c _ 192 x hx (by omega) (by omega)⟩
  have HC : Box (Byt (bytesOf v 8 ++ C)) := ⟨byt_app _ _ (bytesOf_bd v 8) hC⟩
  clear hS hv hC hv0 hv1
  go_enter Tryd.func45, Tryd.ntmps45
  go_upto_region 1 with fail
  rw [HS.out]
  generalize w.alloc (.cells (u8s K) 23) = x0 at H0 ⊢
  go_wp2_with (first
    | (go_at_call 66; refine (C3.out w4 a4 c4 (own_bytes H4.out.1 HC.out)).mono ?_; rintro e w5 ⟨g5, rfl, ho⟩; have H5 : Box (Out w w5 (some ⟨g5, 0, none⟩) 192 192 (padTo (bytesOf v 8 ++ C) 192)) := ⟨out_low ho H4.out.2⟩; clear ho)
    | (refine wpList_app rfl (.tmp 27) (.tmp 28) rfl w2.heap.size 8 len len _ (bytesOf v 8) C a2 w2 rfl rfl H3.out.1 H3.out.2.1 (by omega) H3.out.2.2.1 H3.out.2.2.1.size ?_; intro v4 w4 HV; obtain ⟨a4, c4, hv4⟩ := own_form HV.out.1; subst hv4; have H4 : Box (w4.ownsRow w2.heap.size 5 1 (.slice a4 (8 + len) c4) (8 + len) ((bytesOf v 8 ++ C).map (Value.int .u8)) ∧ Below w.heap.size w w4) := ⟨HV.out.1, H2.out.2.trans (HV.out.2.1.mono H2.out.2.size)⟩; clear HV)
    | (go_at_call 40; refine (C2.out w2).mono ?_; rintro e w3 ⟨g3, rfl, ho⟩; have H3 : Box (w3.ownsRow w2.heap.size 5 1 (.slice (some ⟨g3, 0, none⟩) 8 8) 8 ((bytesOf v 8).map (Value.int .u8)) ∧ Bytes w3 a2 len C ∧ Below w2.heap.size w2 w3 ∧ Below w.heap.size w w3) := ⟨ho.2.1, H2.out.1.below ho.2.2, ho.2.2, below_to H2.out.2 ho.2.2⟩; clear ho)
    | (go_at_call 65; refine Calls.mono (C1.out x0 H0.out.2) ?_; rintro e w2 ⟨a2, rfl, hB, hb⟩; have H2 : Box (Bytes w2 a2 len C ∧ Below w.heap.size w w2) := ⟨hB, below_to H0.out.2 hb⟩; clear hB hb)
    | (refine wpList_seeKey S K hKl H0.out.1 rfl (.tmp 4) rfl rfl ?_)
    | (go_at_call 64; refine (HF.out _).mono ?_; rintro e w' ⟨rfl, rfl⟩))
  go_ret2
  exact ⟨g5, rfl, H5.out⟩
theorem seal_ok (K B : List Int) (p v : Int) (a : Option Addr) (len cap : Nat) (w : World) (hT : Tab w) (hKl : K.length = 32) (hKb : Byt K) (hp : W32 p) (hv0 : ¬ v = 0) (hv1 : ¬ v = 18446744073709551615) (hv : 0 ≤ v ∧ v ≤ 18446744073709551615) (hB : Bytes w a len B) (hl : len = 160 ∨ len = 176) :
    Calls Tryd.prog 45 #[.agg (u8s K), .int .u32 p, .int .u64 v, .slice a len cap] w fun e w' => ∃ g, e = .returned (.tuple #[.slice (some ⟨g, 0, none⟩) 192 192, .int .i64 0]) ∧ Out w w' (some ⟨g, 0, none⟩) 192 192 (sl K p v B) := by
  unfold sl
  rw [hB.1]
  exact seal_in K _ p v a len cap w hKl (byt_cr _ _ _ _ _) (by omega) hv0 hv1 hv ⟨fun x => sfits_yes _ x (by omega)⟩ ⟨fun x hx => scrypt_any K B p v a len cap x (hT.below hx) hKl hKb hp hv (hB.below hx) (by omega)⟩
end Go.Proofs.YtcggbnggmglphaaDoor.Seal
