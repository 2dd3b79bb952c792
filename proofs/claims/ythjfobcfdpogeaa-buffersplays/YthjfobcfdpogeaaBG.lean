/-
  What the Go methods Get, Pin, Unpin, Drop and Put of package buffers answer and leave.
-/
import Derived.Test.YthjfobcfdpogeaaBF
namespace Go.Proofs.Ythjfobcfdpogeaa
set_option linter.unusedVariables false
open Go.RowKit Plain

/-- Appending to a row of one's own leaves it in its block, or in a new one. -/
theorem run_app {P : Program} (w : World) (t ty e : TypeId) (i : TypeInfo) (z : Value) (size bytes : Nat) (ht : P.underlying t = some (.slice e)) (hi : P.info? e = some i) (hz : i.zero = some z)
    (hsize : i.size = size) (hby : i.bytes = bytes) (hzs : z.cells.size = size) (hsz : 0 < size) (v : Value) (n : Nat) (xs : List Value) (hown : w.ownsRow 0 e size v n xs)
    (a : Addr) (m c : Nat) (news : List Value) (hl : news.length = m * size) (hnews : ∀ j u, news[j]? = some u → w.cell? (a.add j) = some u) (h1 : ∀ u ∈ news, u.oneCell' = true)
    (h63 : n + m ≤ maxLen) (hbytes : (n + m) * bytes ≤ 140737488355328) :
    ∃ v' w', (Builtin.append_ #[t, t] ty #[v, .slice (some a) m c]).run P w = .ok v' w' ∧ w'.ownsRow 0 e size v' (n + m) (xs ++ news) ∧ w.grownBy w' v.ownBlock ∧ ∀ k, v'.ownBlock = some k → v.ownBlock = some k ∨ w.heap.size ≤ k := by
  obtain ⟨v', w', hr, h2, h3, h4⟩ := run_append_own (P := P) w 0 t ty e i z size bytes ht hi hz hsize hby hzs hsz v n xs hown a m c news hl hnews h1 h63 hbytes (Nat.zero_le _)
  refine ⟨v', w', hr, h2, h3, ?_⟩
  rcases hown.2 with ⟨rfl, rfl⟩ | ⟨g, cap, cur, rfl, hbg, hg, hnc, hcm, hcs, htake⟩
  · have hx : xs = [] := List.eq_nil_of_length_eq_zero (by simpa using hown.1)
    subst hx
    obtain ⟨v2, w2, hr2, h22, _⟩ := run_append_own (P := P) w w.heap.size t ty e i z size bytes ht hi hz hsize hby hzs hsz _ 0 [] (World.ownsRow_nil w w.heap.size e size) a m c news hl hnews h1 h63 hbytes (Nat.le_refl _)
    rw [hr] at hr2
    simp only [Result.ok.injEq] at hr2
    obtain ⟨rfl, rfl⟩ := hr2
    exact fun k hk => .inr (h22.lt k hk).1
  · subst hsize
    subst hby
    by_cases hroom : n + m ≤ cap
    · have hfit : n * i.size + news.length ≤ cur.size := by rw [hl, hcs, ← Nat.add_mul]; exact Nat.mul_le_mul_right _ hroom
      have hr2 := run_append_room (P := P) w t ty e i ht hi g n cap cur hg a m c news hl hnews h1 hroom hfit
      rw [hr] at hr2
      simp only [Result.ok.injEq] at hr2
      obtain ⟨rfl, rfl⟩ := hr2
      exact fun k hk => .inl hk
    · have hsmall : n + m ≤ 9223372036854775807 := by simp only [maxLen] at h63; omega
      have holds : ∀ j u, xs[j]? = some u → w.cell? ((⟨g, 0, none⟩ : Addr).add j) = some u := hown.cells (g := g) rfl
      have hr2 := run_append_grow (P := P) w t ty e i z ht hi hz ⟨g, 0, none⟩ n cap xs hown.1 holds a m c news hl hnews (by omega) (by omega) (growslice_fits (by omega) hbytes)
      rw [hr] at hr2
      simp only [Result.ok.injEq] at hr2
      obtain ⟨rfl, rfl⟩ := hr2
      exact fun k hk => .inr (by simp [Value.ownBlock] at hk; omega)
theorem wp_app {P : Program} {o : Oper} {act : Act} {w : World} {K : Act → World → Prop} {Q : Exit → Act → World → Prop} (s x : Operand) (t : TypeId) (ho : o.op = .call { callee := .builtin .append, args := #[s, x], argTypes := #[t, t] })
    (e : TypeId) (size bytes : Nat) (z : Value) (ht : P.underlying t = some (.slice e)) (hi : (P.info? e).map (fun i => (i.zero, i.size, i.bytes)) = some (some z, size, bytes)) (hzs : z.cells.size = size) (hsz : 0 < size) (v : Value) (n : Nat) (xs : List Value) (hs : act.eval s = v) (hown : w.ownsRow 0 e size v n xs)
    (a : Addr) (m c : Nat) (news : List Value) (hx : act.eval x = .slice (some a) m c) (hl : news.length = m * size) (hnews : ∀ j u, news[j]? = some u → w.cell? (a.add j) = some u) (h1 : ∀ u ∈ news, u.oneCell' = true)
    (hbytes : (n + m) * bytes ≤ 140737488355328) (hb : 0 < bytes)
    (h : ∀ v' w', w'.ownsRow 0 e size v' (n + m) (xs ++ news) → w.grownBy w' v.ownBlock → (∀ k, v'.ownBlock = some k → v.ownBlock = some k ∨ w.heap.size ≤ k) → K (act.put o.dst v') w') : o.wp P act w K Q := by
  obtain ⟨i, hi, hz, hsize, hby⟩ := info_parts hi
  have h63 : n + m ≤ maxLen := by
    have : (n + m) * 1 ≤ (n + m) * bytes := Nat.mul_le_mul_left _ hb
    unfold maxLen
    omega
  obtain ⟨v', w', hr, h2, h3, h4⟩ := run_app (P := P) w t o.type e i z size bytes ht hi hz hsize hby hzs hsz v n xs hown a m c news hl hnews h1 h63 hbytes
  unfold Oper.wp execOp
  simp only [ho, resolve, invoke, builtin, Sem.run_bind, Sem.run_pure, Result.andThen_ok, List.map_toArray, List.map_cons, List.map_nil, hs, hx, hr]
  exact h v' w' h2 h3 h4
theorem wpList_app2 {P : Program} {ops : Array Oper} {rest : List Oper} {o : Oper} {act : Act} {w : World} {Q : Exit → Act → World → Prop} (hgd : o.guard = none) (s x : Operand) (t : TypeId) (ho : o.op = .call { callee := .builtin .append, args := #[s, x], argTypes := #[t, t] })
    (e : TypeId) (size bytes : Nat) (z : Value) (ht : P.underlying t = some (.slice e)) (hi : (P.info? e).map (fun i => (i.zero, i.size, i.bytes)) = some (some z, size, bytes)) (hzs : z.cells.size = size) (hsz : 0 < size) (v : Value) (n : Nat) (xs : List Value) (hs : act.eval s = v) (hown : w.ownsRow 0 e size v n xs)
    (a : Addr) (m c : Nat) (news : List Value) (hx : act.eval x = .slice (some a) m c) (hl : news.length = m * size) (hnews : ∀ j u, news[j]? = some u → w.cell? (a.add j) = some u) (h1 : ∀ u ∈ news, u.oneCell' = true)
    (hbytes : (n + m) * bytes ≤ 140737488355328) (hb : 0 < bytes)
    (h : ∀ v' w', w'.ownsRow 0 e size v' (n + m) (xs ++ news) → w.grownBy w' v.ownBlock → (∀ k, v'.ownBlock = some k → v.ownBlock = some k ∨ w.heap.size ≤ k) → wpList P ops Q rest (act.put o.dst v') w') : wpList P ops Q (o :: rest) act w :=
  wpList_plain hgd fun _ hK => wp_app s x t ho e size bytes z ht hi hzs hsz v n xs hs hown a m c news hx hl hnews h1 hbytes hb fun v' w' h2 h3 h4 => hK _ _ (h v' w' h2 h3 h4)

theorem own_low2 {w : World} {base base' n : Nat} {e : TypeId} {sz : Nat} {v : Value} {xs : List Value} (h : w.ownsRow base e sz v n xs) (hb : base' ≤ base) : w.ownsRow base' e sz v n xs := by
  refine ⟨h.1, ?_⟩
  rcases h.2 with hn | ⟨g, cap, cur, e, h1, rest⟩
  · exact .inl hn
  · exact .inr ⟨g, cap, cur, e, by omega, rest⟩
theorem own_base {w : World} {base n k : Nat} {e : TypeId} {sz : Nat} {v : Value} {xs : List Value} (h : w.ownsRow base e sz v n xs) (hk : v.ownBlock = some k) : base ≤ k := (h.lt k hk).1
theorem Kb.bytes {w : World} {x : Kp} (h : Kb w x) : Bytes w x.a 160 x.bs := own_bytes h.2.2 h.2.1
theorem own_fr {B base n : Nat} {w w' : World} {v : Value} {xs : List Value} (h : w.ownsRow base 5 1 v n xs) (hf : Fr B w w') : w'.ownsRow base 5 1 v n xs :=
  own_same h (fun k hk => by
    obtain ⟨cs, hc⟩ := own_type (own_low2 h (Nat.zero_le _)) hk
    rw [hf.row hc (by decide) (by decide), hc])
/-- Bytes in memory that is new since w. -/
def Nw (w w' : World) (a : Option Addr) (c : Nat) (bs : List Int) : Prop := w'.ownsRow w.heap.size 5 1 (.slice a 160 c) 160 (bs.map (Value.int .u8))
theorem Cc.fr {w w' : World} {B C : Nat} {n : Int} {L L' : List Kp} (h : Cc w B C n L) (hf : Fr B w w') (hA : ∃ rv, Ca w' B C n rv L') (hs : ∀ x ∈ L', x ∈ L) : Cc w' B C n L' := ⟨hA, fun x hx => (h.2 x (hs x hx)).fr hf⟩
set_option maxHeartbeats 1000000 in
theorem get_no (w : World) (B C : Nat) (n : Int) (L : List Kp) (h : Cc w B C n L) (b : Int) (hn : No L b) :
    Calls Try.prog 13 #[.pointer (some ⟨C, 0, none⟩), .int .u64 b] w fun e w' => e = .returned (.tuple #[.slice none 0 0, .bool false]) ∧ Below w.heap.size w w' := by
  obtain ⟨⟨rv, h1⟩, h2⟩ := h
  have HF : Box _ := ⟨find_no w B C n rv L h1 b hn⟩
  clear h1 h2 hn
  go_enter Try.func13, Try.ntmps13
  go_wp2_with (go_at_call 22; refine HF.out.mono ?_; rintro e w3 ⟨rfl, hb3⟩; have B3 : Box _ := ⟨hb3⟩; clear hb3)
  go_ret2
  exact ⟨rfl, B3.out⟩
theorem get_none (w : World) (b : Int) :
    Calls Try.prog 13 #[.pointer none, .int .u64 b] w fun e w' => e = .returned (.tuple #[.slice none 0 0, .bool false]) ∧ Below w.heap.size w w' := by
  have HF : Box _ := ⟨find_none w b⟩
  go_enter Try.func13, Try.ntmps13
  go_wp2_with (go_at_call 22; refine HF.out.mono ?_; rintro e w3 ⟨rfl, hb3⟩; have B3 : Box _ := ⟨hb3⟩; clear hb3)
  go_ret2
  exact ⟨rfl, B3.out⟩
set_option maxRecDepth 20000 in
set_option maxHeartbeats 2000000 in
theorem get_ok (w : World) (B C : Nat) (n : Int) (L : List Kp) (h : Cc w B C n L) (b : Int) (i : Nat) (hi : i < L.length) (hf : Fs L b i) :
    Calls Try.prog 13 #[.pointer (some ⟨C, 0, none⟩), .int .u64 b] w fun e w' => (∃ a' c', e = .returned (.tuple #[.slice a' 160 c', .bool true]) ∧ Nw w w' a' c' L[i].bs) ∧ Cc w' B C n (fro L i hi) ∧ Fr B w w' := by
  obtain ⟨⟨rv, h1⟩, h2⟩ := h
  have HC : Box (Cc w B C n L) := ⟨⟨rv, h1⟩, h2⟩
  have HF : Box _ := ⟨find_ok w B C n rv L h1 b i hf⟩
  have HT : Box (∀ x, Below w.heap.size w x → Calls Try.prog 25 #[.pointer (some ⟨C, 0, none⟩), .int .i64 (i : Int)] x fun e w' => e = .returned (.tuple #[]) ∧ Ca w' B C n rv (fro L i hi) ∧ Fr B x w') := ⟨fun x hx => front_any x B C n rv L (h1.below hx) i hi⟩
  obtain ⟨g, cap, cur, rfl, hg, hc, hm, hs, htk⟩ := h1.row.blk (by omega)
  have hlen : 0 < L.length := by omega
  have hk2 := h2 L[i] (List.getElem_mem hi)
  have HD : Box (∀ x, Fr B w x → Calls Try.prog 24 #[.slice L[i].a L[i].l L[i].c] x fun e w' => ∃ a' c', e = .returned (.slice a' 160 c') ∧ w'.ownsRow x.heap.size 5 1 (.slice a' 160 c') 160 (L[i].bs.map (Value.int .u8)) ∧ Below x.heap.size x w') := ⟨fun x hx => by rw [hk2.1]; exact clone_any _ 160 _ _ x (hk2.fr hx).bytes (by omega) (by omega)⟩
  have HW : Box (∀ x, Ca x B C n (.slice (some ⟨g, 0, none⟩) L.length cap) (fro L i hi) → x.cell? ⟨C, 1, none⟩ = some (.slice (some ⟨g, 0, none⟩) L.length cap) ∧ x.cell? ⟨g, 1, none⟩ = some (.slice L[i].a L[i].l L[i].c)) := ⟨fun x hx => by
    refine ⟨hx.cells.2.1, ?_⟩
    obtain ⟨g', e, _, hr⟩ := hx.row.ways (by rw [length_fro]; omega)
    simp only [Option.some.injEq, Addr.mk.injEq, and_true] at e
    subst e
    have := hr 0 (by rw [length_fro]; omega) 1 (.slice L[i].a L[i].l L[i].c) (by simp [fro, kc])
    simpa using this⟩
  have hne : ((i : Int) == -1) = false := by simp
  obtain ⟨x, hx⟩ : ∃ x, L[i] = x := ⟨_, rfl⟩
  rw [hx] at HD HW ⊢
  obtain ⟨N, hN⟩ : ∃ N, L.length = N := ⟨_, rfl⟩
  rw [hN] at HW HT hlen
  clear h1 h2 hf hg hs htk hk2 hc hm hx hN
  go_enter Try.func13, Try.ntmps13
  go_wp2_with (first
    | (go_at_call 22; refine HF.out.mono ?_; rintro e w3 ⟨rfl, hb3⟩; have B3 : Box _ := ⟨hb3⟩; clear hb3 HF)
    | (go_at_call 25; refine (HT.out _ B3.out).mono ?_; rintro e w4 ⟨rfl, h4, f4⟩; obtain ⟨c1, c2⟩ := HW.out w4 h4; have F4 : Box (Fr B w w4) := ⟨(Fr.of_below B3.out).trans f4⟩; have H4 : Box _ := ⟨h4⟩; clear h4 f4 HT HW)
    | (go_at_call 24; refine (HD.out _ F4.out).mono ?_; rintro e w5 ⟨a', c', rfl, ho5, hb5⟩; have H5 : Box _ := ⟨ho5⟩; have B5 : Box _ := ⟨hb5⟩; clear ho5 hb5))
  go_ret2
  have hf5 := F4.out.trans (Fr.of_below B5.out)
  exact ⟨⟨a', c', rfl, own_low2 H5.out F4.out.size⟩, HC.out.fr hf5 ⟨_, H4.out.below B5.out⟩ (fun x hx => mem_fro hx), hf5⟩
set_option maxHeartbeats 1000000 in
theorem pin_no (w : World) (B C : Nat) (n : Int) (L : List Kp) (h : Cc w B C n L) (b : Int) (hn : No L b) :
    Calls Try.prog 15 #[.pointer (some ⟨C, 0, none⟩), .int .u64 b] w fun e w' => e = .returned (.bool false) ∧ Below w.heap.size w w' := by
  obtain ⟨⟨rv, h1⟩, h2⟩ := h
  have HF : Box _ := ⟨find_no w B C n rv L h1 b hn⟩
  clear h1 h2 hn
  go_enter Try.func15, Try.ntmps15
  go_wp2_with (go_at_call 22; refine HF.out.mono ?_; rintro e w3 ⟨rfl, hb3⟩; have B3 : Box _ := ⟨hb3⟩; clear hb3)
  go_ret
  exact ⟨rfl, B3.out⟩
set_option maxHeartbeats 1000000 in
theorem pin_none (w : World) (b : Int) :
    Calls Try.prog 15 #[.pointer none, .int .u64 b] w fun e w' => e = .returned (.bool false) ∧ Below w.heap.size w w' := by
  have HF : Box _ := ⟨find_none w b⟩
  go_enter Try.func15, Try.ntmps15
  go_wp2_with (go_at_call 22; refine HF.out.mono ?_; rintro e w3 ⟨rfl, hb3⟩; have B3 : Box _ := ⟨hb3⟩; clear hb3)
  go_ret
  exact ⟨rfl, B3.out⟩
set_option maxRecDepth 20000 in
set_option maxHeartbeats 2000000 in
theorem pin_ok (w : World) (B C : Nat) (n : Int) (L : List Kp) (h : Cc w B C n L) (b : Int) (i : Nat) (hi : i < L.length) (hf : Fs L b i) (hh : L[i].h < 18446744073709551615) :
    Calls Try.prog 15 #[.pointer (some ⟨C, 0, none⟩), .int .u64 b] w fun e w' => e = .returned (.bool true) ∧ Cc w' B C n (L.set i { L[i] with h := L[i].h + 1 }) ∧ Fr B w w' := by
  obtain ⟨⟨rv, h1⟩, h2⟩ := h
  have HC : Box (Cc w B C n L) := ⟨⟨rv, h1⟩, h2⟩
  have HF : Box _ := ⟨find_ok w B C n rv L h1 b i hf⟩
  obtain ⟨g, cap, cur, rfl, hg, hc, hm, hs, htk⟩ := h1.row.blk (by omega)
  have hu := (h1.u L[i] (List.getElem_mem hi)).2
  have HA : Box (Ca w B C n (.slice (some ⟨g, 0, none⟩) L.length cap) L) := ⟨h1⟩
  have hgl := (Array.getElem?_eq_some_iff.1 hg).1
  have hCl := h1.lt
  have c2 : w.cell? ⟨g, i * 3 + 2, none⟩ = some (.int .u64 L[i].h) := by
    obtain ⟨g', e, _, hr⟩ := h1.row.ways (by omega)
    simp only [Option.some.injEq, Addr.mk.injEq, and_true] at e
    subst e
    exact hr i hi 2 _ rfl
  have HK : Box (∀ x, Below w.heap.size w x → x.cell? ⟨C, 1, none⟩ = some (.slice (some ⟨g, 0, none⟩) L.length cap) ∧ x.cell? ⟨g, i * 3 + 2, none⟩ = some (.int .u64 L[i].h) ∧ x.frozen? ⟨g, i * 3 + 2, none⟩ = false) := ⟨fun x hx => ⟨(h1.below hx).cells.2.1, (hx.cell (p := ⟨g, i * 3 + 2, none⟩) hgl).trans c2, frozen_of_row x g _ _ _ ((hx.block g hgl).trans hg)⟩⟩
  have hne : ((i : Int) == -1) = false := by simp
  obtain ⟨y, hy⟩ : ∃ y, L[i] = y := ⟨_, rfl⟩
  have HY : Box (L[i] = y) := ⟨hy⟩
  obtain ⟨N, hN⟩ : ∃ N, L.length = N := ⟨_, rfl⟩
  have HS : Box (∀ x, Below w.heap.size w x → Cc (x.setCell ⟨g, i * 3 + 2, none⟩ (.int .u64 (L[i].h + 1))) B C n (L.set i { L[i] with h := L[i].h + 1 }) ∧ Fr B w (x.setCell ⟨g, i * 3 + 2, none⟩ (.int .u64 (L[i].h + 1)))) := ⟨fun x hx => by
    obtain ⟨k1, k2, _⟩ := (HA.out.below hx).field i 2 hi (by omega) (.int .u64 (L[i].h + 1)) { L[i] with h := L[i].h + 1 } rfl ⟨(h1.u L[i] (List.getElem_mem hi)).1, by unfold U64 at hu ⊢; simp only; omega⟩
    have k3 := (Fr.of_below (B := B) hx).trans k2
    refine ⟨⟨⟨_, k1⟩, fun z hz => ?_⟩, k3⟩
    rcases List.mem_or_eq_of_mem_set hz with hz | rfl
    · exact (h2 z hz).fr k3
    · exact (h2 L[i] (List.getElem_mem hi)).fr k3⟩
  have hw : IntKind.u64.wrap (L[i].h + 1) = L[i].h + 1 := by rw [IntKind.wrap_u64]; unfold U64 at hu; omega
  rw [hy] at HK HS hw ⊢
  rw [hN] at HK
  have hi' : i < N := by omega
  clear h1 h2 hf hg hs htk hc hm hy hN HA HC c2 hgl hCl hu hh
  go_enter Try.func15, Try.ntmps15
  go_wp2_with (first
    | (go_at_call 22; refine HF.out.mono ?_; rintro e w3 ⟨rfl, hb3⟩; obtain ⟨c1, c2, f2⟩ := HK.out w3 hb3; have B3 : Box _ := ⟨hb3⟩; clear hb3 HF HK))
  go_ret
  exact ⟨rfl, HS.out _ B3.out⟩
set_option maxHeartbeats 1000000 in
theorem unpin_no (w : World) (B C : Nat) (n : Int) (L : List Kp) (h : Cc w B C n L) (b : Int) (hn : No L b) :
    Calls Try.prog 17 #[.pointer (some ⟨C, 0, none⟩), .int .u64 b] w fun e w' => e = .returned (.bool false) ∧ Below w.heap.size w w' := by
  obtain ⟨⟨rv, h1⟩, h2⟩ := h
  have HF : Box _ := ⟨find_no w B C n rv L h1 b hn⟩
  clear h1 h2 hn
  go_enter Try.func17, Try.ntmps17
  go_wp2_with (go_at_call 22; refine HF.out.mono ?_; rintro e w3 ⟨rfl, hb3⟩; have B3 : Box _ := ⟨hb3⟩; clear hb3)
  go_ret
  exact ⟨rfl, B3.out⟩
set_option maxHeartbeats 1000000 in
theorem unpin_none (w : World) (b : Int) :
    Calls Try.prog 17 #[.pointer none, .int .u64 b] w fun e w' => e = .returned (.bool false) ∧ Below w.heap.size w w' := by
  have HF : Box _ := ⟨find_none w b⟩
  go_enter Try.func17, Try.ntmps17
  go_wp2_with (go_at_call 22; refine HF.out.mono ?_; rintro e w3 ⟨rfl, hb3⟩; have B3 : Box _ := ⟨hb3⟩; clear hb3)
  go_ret
  exact ⟨rfl, B3.out⟩
set_option maxRecDepth 20000 in
set_option maxHeartbeats 2000000 in
theorem unpin_zero (w : World) (B C : Nat) (n : Int) (L : List Kp) (h : Cc w B C n L) (b : Int) (i : Nat) (hi : i < L.length) (hf : Fs L b i) (hh : L[i].h = 0) :
    Calls Try.prog 17 #[.pointer (some ⟨C, 0, none⟩), .int .u64 b] w fun e w' => e = .returned (.bool false) ∧ Below w.heap.size w w' := by
  obtain ⟨⟨rv, h1⟩, h2⟩ := h
  have HC : Box (Cc w B C n L) := ⟨⟨rv, h1⟩, h2⟩
  have HF : Box _ := ⟨find_ok w B C n rv L h1 b i hf⟩
  obtain ⟨g, cap, cur, rfl, hg, hc, hm, hs, htk⟩ := h1.row.blk (by omega)
  have hu := (h1.u L[i] (List.getElem_mem hi)).2
  have HA : Box (Ca w B C n (.slice (some ⟨g, 0, none⟩) L.length cap) L) := ⟨h1⟩
  have hgl := (Array.getElem?_eq_some_iff.1 hg).1
  have hCl := h1.lt
  have c2 : w.cell? ⟨g, i * 3 + 2, none⟩ = some (.int .u64 L[i].h) := by
    obtain ⟨g', e, _, hr⟩ := h1.row.ways (by omega)
    simp only [Option.some.injEq, Addr.mk.injEq, and_true] at e
    subst e
    exact hr i hi 2 _ rfl
  have HK : Box (∀ x, Below w.heap.size w x → x.cell? ⟨C, 1, none⟩ = some (.slice (some ⟨g, 0, none⟩) L.length cap) ∧ x.cell? ⟨g, i * 3 + 2, none⟩ = some (.int .u64 L[i].h) ∧ x.frozen? ⟨g, i * 3 + 2, none⟩ = false) := ⟨fun x hx => ⟨(h1.below hx).cells.2.1, (hx.cell (p := ⟨g, i * 3 + 2, none⟩) hgl).trans c2, frozen_of_row x g _ _ _ ((hx.block g hgl).trans hg)⟩⟩
  have hne : ((i : Int) == -1) = false := by simp
  obtain ⟨y, hy⟩ : ∃ y, L[i] = y := ⟨_, rfl⟩
  have HY : Box (L[i] = y) := ⟨hy⟩
  obtain ⟨N, hN⟩ : ∃ N, L.length = N := ⟨_, rfl⟩
  have hz : (y.h == 0) = true := by rw [← hy, hh]; rfl
  rw [hy] at HK
  rw [hN] at HK
  have hi' : i < N := by omega
  clear h1 h2 hf hg hs htk hc hm hy hN HA HC c2 hgl hCl hu hh HY
  go_enter Try.func17, Try.ntmps17
  go_wp2_with (first
    | (go_at_call 22; refine HF.out.mono ?_; rintro e w3 ⟨rfl, hb3⟩; obtain ⟨c1, c2, f2⟩ := HK.out w3 hb3; have B3 : Box _ := ⟨hb3⟩; clear hb3 HF HK))
  go_ret
  exact ⟨rfl, B3.out⟩
set_option maxRecDepth 20000 in
set_option maxHeartbeats 2000000 in
theorem unpin_ok (w : World) (B C : Nat) (n : Int) (L : List Kp) (h : Cc w B C n L) (b : Int) (i : Nat) (hi : i < L.length) (hf : Fs L b i) (hh : L[i].h ≠ 0) :
    Calls Try.prog 17 #[.pointer (some ⟨C, 0, none⟩), .int .u64 b] w fun e w' => e = .returned (.bool true) ∧ Cc w' B C n (L.set i { L[i] with h := L[i].h - 1 }) ∧ Fr B w w' := by
  obtain ⟨⟨rv, h1⟩, h2⟩ := h
  have HC : Box (Cc w B C n L) := ⟨⟨rv, h1⟩, h2⟩
  have HF : Box _ := ⟨find_ok w B C n rv L h1 b i hf⟩
  obtain ⟨g, cap, cur, rfl, hg, hc, hm, hs, htk⟩ := h1.row.blk (by omega)
  have hu := (h1.u L[i] (List.getElem_mem hi)).2
  have HA : Box (Ca w B C n (.slice (some ⟨g, 0, none⟩) L.length cap) L) := ⟨h1⟩
  have hgl := (Array.getElem?_eq_some_iff.1 hg).1
  have hCl := h1.lt
  have c2 : w.cell? ⟨g, i * 3 + 2, none⟩ = some (.int .u64 L[i].h) := by
    obtain ⟨g', e, _, hr⟩ := h1.row.ways (by omega)
    simp only [Option.some.injEq, Addr.mk.injEq, and_true] at e
    subst e
    exact hr i hi 2 _ rfl
  have HK : Box (∀ x, Below w.heap.size w x → x.cell? ⟨C, 1, none⟩ = some (.slice (some ⟨g, 0, none⟩) L.length cap) ∧ x.cell? ⟨g, i * 3 + 2, none⟩ = some (.int .u64 L[i].h) ∧ x.frozen? ⟨g, i * 3 + 2, none⟩ = false) := ⟨fun x hx => ⟨(h1.below hx).cells.2.1, (hx.cell (p := ⟨g, i * 3 + 2, none⟩) hgl).trans c2, frozen_of_row x g _ _ _ ((hx.block g hgl).trans hg)⟩⟩
  have hne : ((i : Int) == -1) = false := by simp
  obtain ⟨y, hy⟩ : ∃ y, L[i] = y := ⟨_, rfl⟩
  have HY : Box (L[i] = y) := ⟨hy⟩
  obtain ⟨N, hN⟩ : ∃ N, L.length = N := ⟨_, rfl⟩
  have HS : Box (∀ x, Below w.heap.size w x → Cc (x.setCell ⟨g, i * 3 + 2, none⟩ (.int .u64 (L[i].h - 1))) B C n (L.set i { L[i] with h := L[i].h - 1 }) ∧ Fr B w (x.setCell ⟨g, i * 3 + 2, none⟩ (.int .u64 (L[i].h - 1)))) := ⟨fun x hx => by
    obtain ⟨k1, k2, _⟩ := (HA.out.below hx).field i 2 hi (by omega) (.int .u64 (L[i].h - 1)) { L[i] with h := L[i].h - 1 } rfl ⟨(h1.u L[i] (List.getElem_mem hi)).1, by unfold U64 at hu ⊢; simp only; omega⟩
    have k3 := (Fr.of_below (B := B) hx).trans k2
    refine ⟨⟨⟨_, k1⟩, fun z hz => ?_⟩, k3⟩
    rcases List.mem_or_eq_of_mem_set hz with hz | rfl
    · exact (h2 z hz).fr k3
    · exact (h2 L[i] (List.getElem_mem hi)).fr k3⟩
  have hw : IntKind.u64.wrap (L[i].h - 1) = L[i].h - 1 := by rw [IntKind.wrap_u64]; unfold U64 at hu; omega
  have hz : (y.h == 0) = false := by rw [← hy]; simpa using hh
  rw [hy] at HK HS hw ⊢
  rw [hN] at HK
  have hi' : i < N := by omega
  clear h1 h2 hf hg hs htk hc hm hy hN HA HC c2 hgl hCl hu hh
  go_enter Try.func17, Try.ntmps17
  go_wp2_with (first
    | (go_at_call 22; refine HF.out.mono ?_; rintro e w3 ⟨rfl, hb3⟩; obtain ⟨c1, c2, f2⟩ := HK.out w3 hb3; have B3 : Box _ := ⟨hb3⟩; clear hb3 HF HK))
  go_ret
  exact ⟨rfl, HS.out _ B3.out⟩
set_option maxHeartbeats 1000000 in
theorem drop_no (w : World) (B C : Nat) (n : Int) (L : List Kp) (h : Cc w B C n L) (b : Int) (hn : No L b) :
    Calls Try.prog 18 #[.pointer (some ⟨C, 0, none⟩), .int .u64 b] w fun e w' => e = .returned (.bool false) ∧ Below w.heap.size w w' := by
  obtain ⟨⟨rv, h1⟩, h2⟩ := h
  have HF : Box _ := ⟨find_no w B C n rv L h1 b hn⟩
  clear h1 h2 hn
  go_enter Try.func18, Try.ntmps18
  go_wp2_with (go_at_call 22; refine HF.out.mono ?_; rintro e w3 ⟨rfl, hb3⟩; have B3 : Box _ := ⟨hb3⟩; clear hb3)
  go_ret
  exact ⟨rfl, B3.out⟩
set_option maxHeartbeats 1000000 in
theorem drop_none (w : World) (b : Int) :
    Calls Try.prog 18 #[.pointer none, .int .u64 b] w fun e w' => e = .returned (.bool false) ∧ Below w.heap.size w w' := by
  have HF : Box _ := ⟨find_none w b⟩
  go_enter Try.func18, Try.ntmps18
  go_wp2_with (go_at_call 22; refine HF.out.mono ?_; rintro e w3 ⟨rfl, hb3⟩; have B3 : Box _ := ⟨hb3⟩; clear hb3)
  go_ret
  exact ⟨rfl, B3.out⟩
set_option maxRecDepth 20000 in
set_option maxHeartbeats 2000000 in
theorem drop_held (w : World) (B C : Nat) (n : Int) (L : List Kp) (h : Cc w B C n L) (b : Int) (i : Nat) (hi : i < L.length) (hf : Fs L b i) (hh : L[i].h ≠ 0) :
    Calls Try.prog 18 #[.pointer (some ⟨C, 0, none⟩), .int .u64 b] w fun e w' => e = .returned (.bool false) ∧ Below w.heap.size w w' := by
  obtain ⟨⟨rv, h1⟩, h2⟩ := h
  have HC : Box (Cc w B C n L) := ⟨⟨rv, h1⟩, h2⟩
  have HF : Box _ := ⟨find_ok w B C n rv L h1 b i hf⟩
  obtain ⟨g, cap, cur, rfl, hg, hc, hm, hs, htk⟩ := h1.row.blk (by omega)
  have hu := (h1.u L[i] (List.getElem_mem hi)).2
  have HA : Box (Ca w B C n (.slice (some ⟨g, 0, none⟩) L.length cap) L) := ⟨h1⟩
  have hgl := (Array.getElem?_eq_some_iff.1 hg).1
  have hCl := h1.lt
  have c2 : w.cell? ⟨g, i * 3 + 2, none⟩ = some (.int .u64 L[i].h) := by
    obtain ⟨g', e, _, hr⟩ := h1.row.ways (by omega)
    simp only [Option.some.injEq, Addr.mk.injEq, and_true] at e
    subst e
    exact hr i hi 2 _ rfl
  have HK : Box (∀ x, Below w.heap.size w x → x.cell? ⟨C, 1, none⟩ = some (.slice (some ⟨g, 0, none⟩) L.length cap) ∧ x.cell? ⟨g, i * 3 + 2, none⟩ = some (.int .u64 L[i].h) ∧ x.frozen? ⟨g, i * 3 + 2, none⟩ = false) := ⟨fun x hx => ⟨(h1.below hx).cells.2.1, (hx.cell (p := ⟨g, i * 3 + 2, none⟩) hgl).trans c2, frozen_of_row x g _ _ _ ((hx.block g hgl).trans hg)⟩⟩
  have hne : ((i : Int) == -1) = false := by simp
  obtain ⟨y, hy⟩ : ∃ y, L[i] = y := ⟨_, rfl⟩
  have HY : Box (L[i] = y) := ⟨hy⟩
  obtain ⟨N, hN⟩ : ∃ N, L.length = N := ⟨_, rfl⟩
  have hz : decide (0 < y.h) = true := by rw [← hy]; unfold U64 at hu; simp; omega
  rw [hy] at HK
  rw [hN] at HK
  have hi' : i < N := by omega
  clear h1 h2 hf hg hs htk hc hm hy hN HA HC c2 hgl hCl hu hh HY
  go_enter Try.func18, Try.ntmps18
  go_wp2_with (first
    | (go_at_call 22; refine HF.out.mono ?_; rintro e w3 ⟨rfl, hb3⟩; obtain ⟨c1, c2, f2⟩ := HK.out w3 hb3; have B3 : Box _ := ⟨hb3⟩; clear hb3 HF HK))
  go_ret
  exact ⟨rfl, B3.out⟩
set_option maxRecDepth 20000 in
set_option maxHeartbeats 2000000 in
theorem drop_ok (w : World) (B C : Nat) (n : Int) (L : List Kp) (h : Cc w B C n L) (b : Int) (i : Nat) (hi : i < L.length) (hf : Fs L b i) (hh : L[i].h = 0) :
    Calls Try.prog 18 #[.pointer (some ⟨C, 0, none⟩), .int .u64 b] w fun e w' => e = .returned (.bool true) ∧ Cc w' B C n (L.eraseIdx i) ∧ Fr B w w' := by
  obtain ⟨⟨rv, h1⟩, h2⟩ := h
  have HC : Box (Cc w B C n L) := ⟨⟨rv, h1⟩, h2⟩
  have HF : Box _ := ⟨find_ok w B C n rv L h1 b i hf⟩
  obtain ⟨g, cap, cur, rfl, hg, hc, hm, hs, htk⟩ := h1.row.blk (by omega)
  have hu := (h1.u L[i] (List.getElem_mem hi)).2
  have HA : Box (Ca w B C n (.slice (some ⟨g, 0, none⟩) L.length cap) L) := ⟨h1⟩
  have hgl := (Array.getElem?_eq_some_iff.1 hg).1
  have hCl := h1.lt
  have c2 : w.cell? ⟨g, i * 3 + 2, none⟩ = some (.int .u64 L[i].h) := by
    obtain ⟨g', e, _, hr⟩ := h1.row.ways (by omega)
    simp only [Option.some.injEq, Addr.mk.injEq, and_true] at e
    subst e
    exact hr i hi 2 _ rfl
  have HK : Box (∀ x, Below w.heap.size w x → x.cell? ⟨C, 1, none⟩ = some (.slice (some ⟨g, 0, none⟩) L.length cap) ∧ x.cell? ⟨g, i * 3 + 2, none⟩ = some (.int .u64 L[i].h) ∧ x.frozen? ⟨g, i * 3 + 2, none⟩ = false) := ⟨fun x hx => ⟨(h1.below hx).cells.2.1, (hx.cell (p := ⟨g, i * 3 + 2, none⟩) hgl).trans c2, frozen_of_row x g _ _ _ ((hx.block g hgl).trans hg)⟩⟩
  have hne : ((i : Int) == -1) = false := by simp
  obtain ⟨y, hy⟩ : ∃ y, L[i] = y := ⟨_, rfl⟩
  have HY : Box (L[i] = y) := ⟨hy⟩
  obtain ⟨N, hN⟩ : ∃ N, L.length = N := ⟨_, rfl⟩
  have HG : Box (∀ x, Below w.heap.size w x → Calls Try.prog 29 #[.pointer (some ⟨C, 0, none⟩), .int .i64 (i : Int)] x fun e w' => e = .returned (.tuple #[]) ∧ (∃ rv', Ca w' B C n rv' (L.eraseIdx i)) ∧ Fr B x w') := ⟨fun x hx => forget_any x B C n _ L (HA.out.below hx) i hi⟩
  have hz : decide (0 < y.h) = false := by rw [← hy, hh]; rfl
  rw [hy] at HK
  rw [hN] at HK
  have hi' : i < N := by omega
  clear h1 h2 hf hg hs htk hc hm hy hN HA c2 hgl hCl hu hh HY
  go_enter Try.func18, Try.ntmps18
  go_wp2_with (first
    | (go_at_call 22; refine HF.out.mono ?_; rintro e w3 ⟨rfl, hb3⟩; obtain ⟨c1, c2, f2⟩ := HK.out w3 hb3; have B3 : Box _ := ⟨hb3⟩; clear hb3 HF HK)
    | (go_at_call 29; refine (HG.out _ B3.out).mono ?_; rintro e w4 ⟨rfl, h4, f4⟩; have H4 : Box _ := ⟨h4⟩; have F4 : Box _ := ⟨f4⟩; clear h4 f4))
  go_ret
  have hf5 := (Fr.of_below (B := B) B3.out).trans F4.out
  exact ⟨rfl, HC.out.fr hf5 H4.out (fun x hx => List.mem_of_mem_eraseIdx hx), hf5⟩
end Go.Proofs.Ythjfobcfdpogeaa
