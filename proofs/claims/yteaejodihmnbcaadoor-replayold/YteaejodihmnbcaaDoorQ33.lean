/-
  What was appended to a journal is what is loaded of it: plainly. And what follows it.
-/
import Derived.Test.YteaejodihmnbcaaDoorQ30
import Derived.Test.YteaejodihmnbcaaDoorQ32
import Derived.Test.YteaejodihmnbcaaDoorQ21
namespace Go.Proofs.YteaejodihmnbcaaDoor
set_option maxRecDepth 100000
set_option linter.unusedVariables false
open Go.RowKit Plain
theorem foldl_of (d : List (Int × List Int)) (hd : d ≠ []) (o : List (List (Int × List Int))) : (ofP d).foldl chSt (o, []) = (o ++ [d], []) := by
  obtain ⟨D, x, rfl⟩ : ∃ D x, d = D ++ [x] := ⟨d.dropLast, d.getLast hd, (List.dropLast_concat_getLast hd).symm⟩
  rw [ofP_snoc, List.foldl_append]
  have key : ∀ (E : List (Int × List Int)) (nw : List (Int × List Int)), (E.map (fun y => (y, false))).foldl chSt (o, nw) = (o, nw ++ E) := by
    intro E
    induction E with
    | nil => intro nw; simp
    | cons y E ih =>
      intro nw
      rw [List.map_cons, List.foldl_cons]
      have : chSt (o, nw) (y, false) = (o, nw ++ [y]) := by simp [chSt]
      rw [this, ih]
      simp
  rw [key]
  simp [chSt]
theorem chS_of (D : List (List (Int × List Int))) (h : ∀ d ∈ D, d ≠ []) : chS ((D.map ofP).flatten) = (D, []) := by
  have key : ∀ (E : List (List (Int × List Int))) (o : List (List (Int × List Int))), (∀ d ∈ E, d ≠ []) → ((E.map ofP).flatten).foldl chSt (o, []) = (o ++ E, []) := by
    intro E
    induction E with
    | nil => intro o _; simp
    | cons d E ih =>
      intro o hE
      rw [List.map_cons, List.flatten_cons, List.foldl_append, foldl_of d (hE d (by simp)), ih _ (fun x hx => hE x (by simp [hx]))]
      simp
  have := key D [] h
  simpa [chS] using this
theorem last_of (D : List (List (Int × List Int))) (h : ∀ d ∈ D, d ≠ []) (h0 : 0 < ((D.map ofP).flatten).length) : (((D.map ofP).flatten)[((D.map ofP).flatten).length - 1]'(by omega)).2 = true := by
  obtain ⟨E, d, rfl⟩ : ∃ E d, D = E ++ [d] := by
    have : D ≠ [] := by intro e; subst e; simp at h0
    exact ⟨D.dropLast, D.getLast this, (List.dropLast_concat_getLast this).symm⟩
  have hd := h d (by simp)
  obtain ⟨F, x, rfl⟩ : ∃ F x, d = F ++ [x] := ⟨d.dropLast, d.getLast hd, (List.dropLast_concat_getLast hd).symm⟩
  have e : ((E ++ [F ++ [x]]).map ofP).flatten = ((E.map ofP).flatten ++ F.map (fun y => (y, false))) ++ [(x, true)] := by
    simp [ofP_snoc]
  have h2 : (((E ++ [F ++ [x]]).map ofP).flatten)[(((E ++ [F ++ [x]]).map ofP).flatten).length - 1]? = some (x, true) := by
    rw [e]
    simp
  rw [List.getElem?_eq_getElem (by omega)] at h2
  rw [Option.some.inj h2]
/-- A record that may be written. -/
def RcOk (r : (Int × List Int) × Bool) : Prop := r.1.2.length = 160 ∧ Byt r.1.2 ∧ N64 r.1.1
theorem opn_slt (K : List Int) (p : Nat) (v : Int) (r : (Int × List Int) × Bool) (hr : RcOk r) (hv : 1 ≤ v ∧ v ≤ 9223372036854775807) : Opn K (p, slt K (p : Int) v r) ∧ opR K (p, slt K (p : Int) v r) = r := by
  have hl := len_putP r hr.1
  have e : Seal.op K (p : Int) (slt K (p : Int) v r) 176 = putP r := Seal.op_sl K (p : Int) v (putP r) 176 hl (byt_putP r hr.2.1) (by omega) ⟨by omega, by omega⟩
  refine ⟨⟨Seal.sl_fit K (p : Int) v (putP r) 176 hl (by omega) ⟨by omega, by omega⟩ (by omega) (by omega), ?_⟩, ?_⟩
  · show fitR (Seal.op K (p : Int) (slt K (p : Int) v r) 176)
    rw [e]
    exact fit_putP r hr.1
  · show getP (Seal.op K (p : Int) (slt K (p : Int) v r) 176) = r
    rw [e]
    exact getP_putP r hr.2.2
/-- The records that a journal has on its disk. -/
structure Jn (d : Disk.Dk) (K : List Int) (f n : Nat) (s : Jst) (R : List ((Int × List Int) × Bool)) : Prop where
  ct : s.count = R.length
  tg : chn (lds d f n s) = s.tag
  op : ∀ x ∈ lds d f n s, Opn K x
  rs : (lds d f n s).map (opR K) = R
theorem jn_nil (d : Disk.Dk) (K : List Int) (f n : Nat) (st : Nat) : Jn d K f n ⟨st, 0, z32⟩ [] := ⟨rfl, rfl, fun x hx => by simp [lds, pcs] at hx, rfl⟩
theorem mod_other (st i c n : Nat) (h1 : i < c) (h2 : c < n) : (st + i) % n ≠ (st + c) % n := by
  intro e
  have h3 := Nat.sub_mod_eq_zero_of_mod_eq e.symm
  rw [show st + c - (st + i) = c - i by omega, Nat.mod_eq_of_lt (by omega)] at h3
  omega
theorem lds_wr (d : Disk.Dk) (f n : Nat) (s : Jst) (T tg : List Int) (hc : s.count < n) : lds (Disk.wrOk d (f + (s.start + s.count) % n) T) f n ⟨s.start, s.count + 1, tg⟩ = lds d f n s ++ [(f + (s.start + s.count) % n, T)] := by
  unfold lds
  show (pcs f n s.start (s.count + 1)).map _ = _
  rw [pcs_succ, List.map_append]
  congr 1
  · apply List.map_congr_left
    intro p hp
    obtain ⟨i, hi, rfl⟩ := List.mem_map.1 hp
    have hi' : i < s.count := List.mem_range.1 hi
    rw [Disk.lat_wr, if_neg]
    have := mod_other s.start i s.count n hi' hc
    omega
  · simp [Disk.lat_wr]
theorem Jn.step {d : Disk.Dk} {j : Jt} {s : Jst} {R : List ((Int × List Int) × Bool)} (h : Jn d j.key j.first j.size s R) (hc : s.count < j.size) (nx : Int) (hx : 1 ≤ nx ∧ nx ≤ 9223372036854775807) (r : (Int × List Int) × Bool) (hr : RcOk r) :
    Jn (Disk.wrOk d (plc j (s.start + s.count)) (slt j.key (plc j (s.start + s.count) : Int) nx r)) j.key j.first j.size (nxS j s (plc j (s.start + s.count)) (slt j.key (plc j (s.start + s.count) : Int) nx r)) (R ++ [r]) := by
  obtain ⟨o1, o2⟩ := opn_slt j.key (plc j (s.start + s.count)) nx r hr hx
  have e := lds_wr d j.first j.size s (slt j.key (plc j (s.start + s.count) : Int) nx r) (lnk s.tag (plc j (s.start + s.count) : Int) (slt j.key (plc j (s.start + s.count) : Int) nx r)) hc
  have e' : lds (Disk.wrOk d (plc j (s.start + s.count)) (slt j.key (plc j (s.start + s.count) : Int) nx r)) j.first j.size (nxS j s (plc j (s.start + s.count)) (slt j.key (plc j (s.start + s.count) : Int) nx r)) = lds d j.first j.size s ++ [(plc j (s.start + s.count), slt j.key (plc j (s.start + s.count) : Int) nx r)] := e
  refine ⟨by show s.count + 1 = _; rw [h.ct]; simp, ?_, ?_, ?_⟩
  · rw [e', chn_snoc, h.tg]
    rfl
  · intro x hx
    rw [e'] at hx
    rcases List.mem_append.1 hx with hx | hx
    · exact h.op x hx
    · simp only [List.mem_cons, List.not_mem_nil, or_false] at hx
      rw [hx]
      exact o1
  · rw [e', List.map_append, h.rs]
    simp [o2]
theorem jn_apL (j : Jt) : ∀ (L : List ((Int × List Int) × Bool)) (d : Disk.Dk) (nx : Int) (s : Jst) (R : List ((Int × List Int) × Bool)), Up d → Jn d j.key j.first j.size s R → s.count + L.length ≤ j.size → (∀ r ∈ L, RcOk r) → 1 ≤ nx → nx + (L.length : Int) ≤ 9223372036854775807 → Jn (apL j (d, nx, 0, s) L).1 j.key j.first j.size (apL j (d, nx, 0, s) L).2.2.2 (R ++ L)
  | [], d, nx, s, R, h, hj, _, _, _, _ => by simpa [apL] using hj
  | r :: L, d, nx, s, R, h, hj, hc, hr, h1, h2 => by
    have e : apS j (d, nx, 0, s) r = (Disk.wrOk d (plc j (s.start + s.count)) (apT j (d, nx, 0, s) r), nx + 1, 0, nxS j s (plc j (s.start + s.count)) (apT j (d, nx, 0, s) r)) := by
      unfold apS
      rw [if_neg (by simp), dwr_up h]
      rfl
    have e2 : apL j (d, nx, 0, s) (r :: L) = apL j (Disk.wrOk d (plc j (s.start + s.count)) (apT j (d, nx, 0, s) r), nx + 1, 0, nxS j s (plc j (s.start + s.count)) (apT j (d, nx, 0, s) r)) L := by rw [← e]; rfl
    simp only [List.length_cons] at hc h2
    have ih := jn_apL j L (Disk.wrOk d (plc j (s.start + s.count)) (apT j (d, nx, 0, s) r)) (nx + 1) (nxS j s (plc j (s.start + s.count)) (apT j (d, nx, 0, s) r)) (R ++ [r]) (up_wr h _ _) (hj.step (by omega) nx ⟨h1, by omega⟩ r (hr r (by simp))) (by show s.count + 1 + L.length ≤ _; omega) (fun x hx => hr x (by simp [hx])) (by omega) (by omega)
    rw [e2]
    simpa using ih
theorem rcOk_of (L : List (Int × List Int)) (h : ∀ x ∈ L, x.2.length = 160 ∧ Byt x.2 ∧ N64 x.1) : ∀ r ∈ ofP L, RcOk r := by
  intro r hr
  obtain ⟨i, hi, rfl⟩ := List.getElem_of_mem hr
  simp only [ofP, List.getElem_mapIdx]
  exact h _ (List.getElem_mem _)
/-- Behind an Append that is taken. -/
theorem jn_appM (j : Jt) (ok : j.Ok) (d : Disk.Dk) (L : List (Int × List Int)) (hd : Up d) (hb : bad L = false) (h1 : j.st.count + L.length ≤ j.size) (h2 : j.nx + (L.length : Int) ≤ j.lim) (hL : ∀ x ∈ L, x.2.length = 160 ∧ Byt x.2 ∧ N64 x.1) {R : List ((Int × List Int) × Bool)} (hj : Jn d j.key j.first j.size j.st R) : Jn (appM j d L).1 j.key j.first j.size (appM j d L).2.2.2 (R ++ ofP L) := by
  have ht : tke j L.length = 0 := by
    unfold tke
    rw [if_neg (by omega), if_neg (by omega)]
  have h := apL_up j (ofP L) d j.nx j.st hd ⟨ok.st.lt, ok.st.bt⟩
  have e : appM j d L = apL j (d, j.nx, 0, j.st) (ofP L) := by
    unfold appM
    rw [if_neg (by rw [hb]; simp), if_neg (fun h => h ht), if_neg (fun hh => hh h.er)]
  rw [e]
  have hnx := ok.nx
  have hlm := ok.lim
  exact jn_apL j (ofP L) d j.nx j.st R hd hj (by rw [len_ofP]; exact h1) (rcOk_of L hL) hnx.1 (by rw [len_ofP]; omega)
/-- What is loaded. -/
theorem jn_load {d : Disk.Dk} {K : List Int} {f n : Nat} {s : Jst} {X : List (List (Int × List Int))} (h : Jn d K f n s ((X.map ofP).flatten)) (hX : ∀ x ∈ X, x ≠ []) : LGood d K f n s ∧ ldC d K f n s = X := by
  refine ⟨⟨h.tg, h.op, ?_⟩, ?_⟩
  · rw [h.rs]
    exact fun h0 => last_of X hX h0
  · unfold ldC
    rw [h.rs, chS_of X hX]
/-- The order of reads counts for nothing. -/
theorem Jn.rd {d : Disk.Dk} {K : List Int} {f n : Nat} {s : Jst} {R : List ((Int × List Int) × Bool)} (h : Jn d K f n s R) (L : List Nat) : Jn (rdD d L) K f n s R := ⟨h.ct, h.tg, h.op, h.rs⟩
end Go.Proofs.YteaejodihmnbcaaDoor
namespace Go.Proofs.YteaejodihmnbcaaDoor
set_option maxRecDepth 100000
set_option linter.unusedVariables false
open Go.RowKit Plain
attribute [local go_sem] Oper.semAt_some
set_option maxHeartbeats 1000000 in
theorem rsame_any (a b : Option Addr) (ca cb : Nat) (P : List (Int × List Int)) (w : World) (ha : Tb w a 2 ic P) (hb : Tb w b 2 ic P) (hl : P.length ≤ 1000) :
    Calls Tryd.prog 11 #[.slice a P.length ca, .slice b P.length cb] w fun e w' => e = .returned (.bool true) ∧ Below w.heap.size w w' := by
  have HA : Box (∀ x, Below w.heap.size w x → Tb x a 2 ic P ∧ Tb x b 2 ic P) := ⟨fun x hx => ⟨ha.below hx, hb.below hx⟩⟩
  clear ha hb
  go_enter Tryd.func11, Tryd.ntmps11
  go_wp2
  go_loopw [5] (fun i wr => ∃ k : Nat, k ≤ P.length ∧ i = .int .i64 (k : Int) ∧ Box (Below w.heap.size w wr)) (fun i _ => P.length - (intOf i).toNat)
  case atStart => exact ⟨0, Nat.zero_le _, rfl, ⟨Below.refl _ _⟩⟩
  case round =>
    obtain ⟨k, hk, rfl, HG⟩ := hrel
    by_cases hlt : k < P.length
    · have hlt1 : decide ((k : Int) < (P.length : Int)) = true := by simp; omega
      have hT := HA.out wr HG.out
      obtain ⟨b1, o1, e1, hbl1, hr1⟩ := hT.1 (by omega)
      obtain ⟨b2, o2, e2, hbl2, hr2⟩ := hT.2 (by omega)
      subst e1
      subst e2
      have HML : Box (k < P.length) := ⟨hlt⟩
      have h1 := hr1 k hlt
      have h2 := hr2 k hlt
      obtain ⟨⟨blk, L⟩, hmm⟩ : ∃ m, P[k] = m := ⟨_, rfl⟩
      rw [hmm] at h1 h2
      obtain ⟨s, hs⟩ : ∃ s, strOfNums L = s := ⟨_, rfl⟩
      have HR : Box (∀ x, Below wr.heap.size wr x → x.rangeAt b1 (o1 + k * 2) [.int .u64 blk, .string s] ∧ x.rangeAt b2 (o2 + k * 2) [.int .u64 blk, .string s]) := ⟨fun x hx => ⟨hs ▸ range_below hx h1 hbl1, hs ▸ range_below hx h2 hbl2⟩⟩
      have hw4 : IntKind.i64.wrap ((k : Int) + 1) = ((k + 1 : Nat) : Int) := by rw [IntKind.wrap_i64]; omega
      clear hr1 hr2 h1 h2 hmm hs hT
      go_upto_region 6 with fail
      refine Seq.begin_any (by kernel_rfl) (fun wd hd => ?_)
      have hbd : Below wr.heap.size wr wd := hd.mono (Nat.le_refl _)
      refine Seq.take_lat (i := 0) (v := ?_) rfl (by kernel_rfl) (by kernel_rfl) (by kernel_rfl) (fun _ _ _ h => h) (by rfl) ?_ ?_
      rotate_left
      · intro w' hLat; change Below _ _ _ at hLat; go_simp <;> with_reducible rfl
      try simp only [Act.put, List.setIfInBounds_toArray, List.set_cons_zero, List.set_cons_succ, List.getElem_toArray, List.getElem_cons_zero]
      refine Seq.take_lat (i := 1) (v := ?_) rfl (by kernel_rfl) (by kernel_rfl) (by kernel_rfl) (fun _ _ _ h => h) (by rfl) ?_ ?_
      rotate_left
      · intro w' hLat; change Below _ _ _ at hLat; go_simp <;> with_reducible rfl
      try simp only [Act.put, List.setIfInBounds_toArray, List.set_cons_zero, List.set_cons_succ, List.getElem_toArray, List.getElem_cons_zero, List.getElem_cons_succ]
      refine Seq.take_lat (i := 2) (v := .pointer (some ⟨b1, o1 + k * 2, none⟩)) rfl (by kernel_rfl) (by kernel_rfl) (by kernel_rfl) (fun _ _ _ h => h) (by rfl) (fun w' hLat => exec_idxT 26 60 Tryd.underlying26 2 infoI _ _ rfl b1 o1 P.length ca k rfl rfl HML.out) ?_
      try simp only [Act.put, List.setIfInBounds_toArray, List.set_cons_zero, List.set_cons_succ, List.getElem_toArray, List.getElem_cons_zero, List.getElem_cons_succ]
      refine Seq.take_lat (i := 3) (v := .agg #[.int .u64 blk, .string s]) rfl (by kernel_rfl) (by kernel_rfl) (by kernel_rfl) (fun _ _ _ h => h) (by rfl) (fun w' hLat => exec_load_mid 60 _ _ rfl Tryd.underlying60 rfl b1 (o1 + k * 2) rfl [.int .u64 blk, .string s] infoI (HR.out w' (below_to hbd hLat)).1) ?_
      try simp only [Act.put, List.setIfInBounds_toArray, List.set_cons_zero, List.set_cons_succ, List.getElem_toArray, List.getElem_cons_zero, List.getElem_cons_succ]
      refine Seq.take_lat (i := 4) (v := ?_) rfl (by kernel_rfl) (by kernel_rfl) (by kernel_rfl) (fun _ _ _ h => h) (by rfl) ?_ ?_
      rotate_left
      · intro w' hLat; change Below _ _ _ at hLat; go_simp <;> with_reducible rfl
      try simp only [Act.put, List.setIfInBounds_toArray, List.set_cons_zero, List.set_cons_succ, List.getElem_toArray, List.getElem_cons_zero, List.getElem_cons_succ]
      refine Seq.take_lat (i := 5) (v := ?_) rfl (by kernel_rfl) (by kernel_rfl) (by kernel_rfl) (fun _ _ _ h => h) (by rfl) ?_ ?_
      rotate_left
      · intro w' hLat; change Below _ _ _ at hLat; go_simp <;> with_reducible rfl
      try simp only [Act.put, List.setIfInBounds_toArray, List.set_cons_zero, List.set_cons_succ, List.getElem_toArray, List.getElem_cons_zero, List.getElem_cons_succ]
      refine Seq.take_lat (i := 6) (v := .pointer (some ⟨b2, o2 + k * 2, none⟩)) rfl (by kernel_rfl) (by kernel_rfl) (by kernel_rfl) (fun _ _ _ h => h) (by rfl) (fun w' hLat => exec_idxT 26 60 Tryd.underlying26 2 infoI _ _ rfl b2 o2 P.length cb k rfl rfl HML.out) ?_
      try simp only [Act.put, List.setIfInBounds_toArray, List.set_cons_zero, List.set_cons_succ, List.getElem_toArray, List.getElem_cons_zero, List.getElem_cons_succ]
      refine Seq.take_lat (i := 7) (v := .agg #[.int .u64 blk, .string s]) rfl (by kernel_rfl) (by kernel_rfl) (by kernel_rfl) (fun _ _ _ h => h) (by rfl) (fun w' hLat => exec_load_mid 60 _ _ rfl Tryd.underlying60 rfl b2 (o2 + k * 2) rfl [.int .u64 blk, .string s] infoI (HR.out w' (below_to hbd hLat)).2) ?_
      try simp only [Act.put, List.setIfInBounds_toArray, List.set_cons_zero, List.set_cons_succ, List.getElem_toArray, List.getElem_cons_zero, List.getElem_cons_succ]
      refine Seq.take_lat (i := 8) (v := .bool false) rfl (by kernel_rfl) (by kernel_rfl) (by kernel_rfl) (fun _ _ _ h => h) (by rfl) (fun w' hLat => exec_neI _ _ _ rfl blk s rfl rfl) ?_
      try simp only [Act.put, List.setIfInBounds_toArray, List.set_cons_zero, List.set_cons_succ, List.getElem_toArray, List.getElem_cons_zero, List.getElem_cons_succ]
      refine wpAnyH_done (by kernel_rfl) ?_ _
      have HD : Box (Below w.heap.size w wd) := ⟨below_to HG.out hbd⟩
      clear hd hbd
      go_wp2
      go_roundw
      case rel => exact ⟨k + 1, HML.out, by go_num, HD⟩
      case measure => simp [intOf]; have := HML.out; omega
    · obtain rfl : k = P.length := by omega
      have hlt1 : decide ((P.length : Int) < (P.length : Int)) = false := by simp
      go_wp2
      go_ret
      exact ⟨rfl, HG.out⟩
/-- What is wanted of a change: where it lies. -/
structure Wx where
  a : Option Addr
  l : Nat
  c : Nat
  P : List (Int × List Int)
def wsl (x : Wx) : List Value := [.slice x.a x.l x.c]
theorem own_grown {w w' : World} {B B' n n' : Nat} {e e' : TypeId} {sz sz' : Nat} {v v' : Value} {xs xs' : List Value} (h : w.ownsRow B e sz v n xs) (hv : w.ownsRow B' e' sz' v' n' xs') (he : e' ≠ e) (hg : w.grownBy w' v'.ownBlock) : w'.ownsRow B e sz v n xs :=
  own_same h (fun k hk => hg.block k (h.lt k hk).2 (fun e2 => own_ne hv h he k e2.symm hk))
theorem infSlI : (Tryd.prog.info? 26).map (fun i => (i.zero, i.size, i.bytes)) = some (some (.slice none 0 0), 1, 24) := by kernel_rfl
theorem infoSlIz : (Tryd.prog.info? 26).map (·.size) = some 1 := by kernel_rfl
theorem infoSlz2 : (Tryd.prog.info? 24).map (·.size) = some 1 := by kernel_rfl
/-- Rows of images, of a call's own. -/
structure Wnt (w : World) (B : Nat) (u : Value) (Wn : List Wx) : Prop where
  row : w.ownsRow B 26 1 u Wn.length (Wn.map wsl).flatten
  im : ∀ x ∈ Wn, x.P.length = x.l ∧ w.ownsRow B 60 2 (.slice x.a x.l x.c) x.l (x.P.map ic).flatten
theorem Wnt.to {w w' : World} {B : Nat} {u : Value} {Wn : List Wx} (h : Wnt w B u Wn) (hb : Below w.heap.size w w') : Wnt w' B u Wn := ⟨own_to h.row hb, fun x hx => ⟨(h.im x hx).1, own_to (h.im x hx).2 hb⟩⟩
theorem wnt_nil (w : World) (B : Nat) : Wnt w B (.slice none 0 0) [] := ⟨World.ownsRow_nil _ _ _ _, fun x hx => by simp at hx⟩
theorem Wnt.app {w w' : World} {B : Nat} {u u' : Value} {Wn : List Wx} (h : Wnt w B u Wn) (a : Option Addr) (l c : Nat) (P : List (Int × List Int)) (hl : P.length = l) (hm : w.ownsRow B 60 2 (.slice a l c) l (P.map ic).flatten) (ho : w'.ownsRow B 26 1 u' (Wn.length + 1) ((Wn.map wsl).flatten ++ [.slice a l c])) (hg : w.grownBy w' u.ownBlock) : Wnt w' B u' (Wn ++ [⟨a, l, c, P⟩]) := by
  refine ⟨?_, fun x hx => ?_⟩
  · rw [List.length_append, List.map_append, List.flatten_append]
    simpa [wsl] using ho
  · rcases List.mem_append.1 hx with hx | hx
    · exact ⟨(h.im x hx).1, own_grown (h.im x hx).2 h.row (by decide) hg⟩
    · simp only [List.mem_cons, List.not_mem_nil, or_false] at hx
      subst hx
      exact ⟨hl, own_grown hm h.row (by decide) hg⟩
/-- All changes as the model has them. -/
def plC (C : List Sx) : List (List (Int × List Int)) := C.map fun c => c.M.map pl
structure AoK (w wr : World) (C : List Sx) (k : Nat) (u : Value) (Wn : List Wx) : Prop where
  wn : Wnt wr w.heap.size u Wn
  eq : Wn.map (·.P) = (plC C).take k
  bel : Below w.heap.size w wr
theorem AoK.step {w wr x w' : World} {C : List Sx} {k : Nat} {u u' : Value} {Wn : List Wx} (h : AoK w wr C k u Wn) (hk : k < C.length) (hb : Below wr.heap.size wr x) (a : Option Addr) (l c : Nat) (hl : C[k].M.length = l) (hm : x.ownsRow wr.heap.size 60 2 (.slice a l c) l ((C[k].M.map pl).map ic).flatten) (ho : w'.ownsRow w.heap.size 26 1 u' (Wn.length + 1) ((Wn.map wsl).flatten ++ [.slice a l c])) (hg : x.grownBy w' u.ownBlock) : AoK w w' C (k + 1) u' (Wn ++ [⟨a, l, c, C[k].M.map pl⟩]) := by
  have h2 := h.wn.to hb
  have hk2 : k < (plC C).length := by simpa [plC] using hk
  refine ⟨h2.app a l c _ (by simpa using hl) (own_low2 hm h.bel.size) ho hg, ?_, (below_to h.bel hb).grown hg (below_to h.bel hb).size (fun j hj => (own_blk h2.row j hj).1)⟩
  rw [List.map_append, h.eq, List.take_succ_eq_append_getElem hk2]
  simp [plC]
theorem AoK.len {w wr : World} {C : List Sx} {k : Nat} {u : Value} {Wn : List Wx} (h : AoK w wr C k u Wn) (hk : k ≤ C.length) : Wn.length = k := by
  have := congrArg List.length h.eq
  simp [plC] at this
  omega
set_option maxHeartbeats 2000000 in
theorem allOf_any (a : Option Addr) (cap : Nat) (C : List Sx) (w : World) (h : Igss w a C) (hl : C.length ≤ 1000) (hc : ∀ c ∈ C, c.l ≤ 1000) :
    Calls Tryd.prog 9 #[.slice a C.length cap] w fun e w' => ∃ v Wn, e = .returned v ∧ AoK w w' C C.length v Wn := by
  obtain ⟨n, hn⟩ : ∃ n, C.length = n := ⟨_, rfl⟩
  have HI : Box (∀ wr, Below w.heap.size w wr → Igss wr a C) := ⟨fun wr hb => h.below hb⟩
  have HN : Box (C.length = n ∧ n ≤ 1000 ∧ ∀ c ∈ C, c.l ≤ 1000) := ⟨hn, by omega, hc⟩
  rw [hn]
  clear h hl hc hn
  go_enter Tryd.func9, Tryd.ntmps9
  go_wp2
  go_loopw [3, 4] (fun v i wr => ∃ (k : Nat) (Wn : List Wx), k ≤ n ∧ i = .int .i64 (k : Int) ∧ Box (AoK w wr C k v Wn)) (fun _ i _ => n - (intOf i).toNat)
  case atStart => exact ⟨0, [], Nat.zero_le _, rfl, ⟨⟨wnt_nil _ _, rfl, Below.refl _ _⟩⟩⟩
  case round =>
    obtain ⟨k, Wn, hk, rfl, HG⟩ := hrel
    by_cases hlt : k < n
    · have hlt1 : decide ((k : Int) < (n : Int)) = true := by simp; omega
      have hkC : k < C.length := by rw [HN.out.1]; exact hlt
      have HK : Box (k < n) := ⟨hlt⟩
      have HIo := HI.out wr HG.out.bel
      obtain ⟨b, o, hae, hbl, hr⟩ := HIo.tb (by omega)
      subst hae
      have hrk := hr k hkC
      obtain ⟨hcl, hcI, hcm⟩ := HIo.im C[k] (List.getElem_mem hkC)
      have hc10 := HN.out.2.2 C[k] (List.getElem_mem hkC)
      have HST : Box (∀ (x w' : World) (a' : Option Addr) (c' : Nat) (u' : Value), Below wr.heap.size wr x → x.ownsRow wr.heap.size 60 2 (.slice a' C[k].l c') C[k].l ((C[k].M.map pl).map ic).flatten → w'.ownsRow w.heap.size 26 1 u' (Wn.length + 1) ((Wn.map wsl).flatten ++ [.slice a' C[k].l c']) → x.grownBy w' u3.ownBlock → ∃ Wn', AoK w w' C (k + 1) u' Wn') := ⟨fun x w' a' c' u' h1 h2 h3 h4 => ⟨_, HG.out.step hkC h1 a' _ c' hcl h2 h3 h4⟩⟩
      have HMO : Box (Calls Tryd.prog 12 #[.slice C[k].a C[k].l C[k].c] wr fun e w' => ∃ a' c', e = .returned (.slice a' C[k].l c') ∧ w'.ownsRow wr.heap.size 60 2 (.slice a' C[k].l c') C[k].l ((C[k].M.map pl).map ic).flatten ∧ Below wr.heap.size wr w') := ⟨by
        have := modelOf_any C[k].a C[k].c C[k].M wr hcI (by omega)
        rw [hcl] at this
        refine this.mono ?_
        rintro e w' ⟨v, rfl, hm⟩
        have hrow := hm.row
        rw [List.take_of_length_le (by simp; omega)] at hrow
        obtain ⟨a', c', rfl⟩ := own_form2 hrow
        exact ⟨a', c', rfl, hrow, hm.bel⟩⟩
      have HOW : Box (∀ x, Below wr.heap.size wr x → x.ownsRow w.heap.size 26 1 u3 Wn.length (Wn.map wsl).flatten ∧ w.heap.size ≤ x.heap.size) := ⟨fun x hx => ⟨own_to HG.out.wn.row hx, Nat.le_trans HG.out.bel.size hx.size⟩⟩
      have HWL : Box (Wn.length ≤ 1000000) := ⟨by have := HG.out.len (by rw [HN.out.1]; exact hk); have := HN.out.2.1; omega⟩
      obtain ⟨⟨ca, cl, cc, CM⟩, hx⟩ : ∃ c, C[k] = c := ⟨_, rfl⟩
      rw [hx] at hrk HST HMO
      dsimp only at HST HMO
      have c0 : wr.cell? ⟨b, o + k, none⟩ = some (.slice ca cl cc) := by have := hrk 0 _ rfl; rwa [Nat.mul_one, Nat.add_zero] at this
      have hw4 : IntKind.i64.wrap ((k : Int) + 1) = ((k + 1 : Nat) : Int) := by have := HN.out.2.1; rw [IntKind.wrap_i64]; omega
      clear hx hrk hcl hcI hcm hc10 HIo hr hbl
      go_wp2_with (first
        | (refine atIdx 22 ?_; refine wpList_run rfl _ _ (exec_idxT 22 24 Tryd.underlying22 1 infoSlz2 _ _ rfl b o n cap k rfl rfl HK.out) ?_; (try rw [Nat.mul_one]))
        | (go_at_call 12; refine HMO.out.mono ?_; rintro e x1 ⟨a1, c1, rfl, q1, q2⟩; have H1 : Box (x1.ownsRow wr.heap.size 60 2 (.slice a1 cl c1) cl ((CM.map pl).map ic).flatten ∧ Below wr.heap.size wr x1) := ⟨q1, q2⟩; have HO1 : Box _ := ⟨HOW.out x1 q2⟩; clear q1 q2)
        | (at_builtin; refine wpList_appR 28 26 Tryd.underlying28 1 24 _ infSlI rfl (by decide) rfl (.tmp 11) (.tmp 17) rfl w.heap.size Wn.length u3 (Wn.map wsl).flatten [.slice a1 cl c1] x1 rfl rfl rfl HO1.out.1 rfl (by simp [Value.oneCell']) HWL.out (by decide) (by decide) HO1.out.2 ?_; intro v2 x2 q1 q2; have H2 : Box (∃ Wn', AoK w x2 C (k + 1) v2 Wn') := ⟨HST.out x1 x2 a1 c1 v2 H1.out.2 H1.out.1 q1 q2⟩; clear q1 q2))
      go_roundw
      case rel =>
        obtain ⟨Wn', h⟩ := H2.out
        exact ⟨k + 1, Wn', by omega, by go_num, ⟨h⟩⟩
      case measure => simp [intOf]; omega
    · have hlt1 : decide ((k : Int) < (n : Int)) = false := by simp; omega
      obtain rfl : k = n := by omega
      go_wp2
      go_ret
      exact ⟨_, Wn, rfl, HG.out⟩
/-- Rows of images, to be read. -/
structure Rws (w : World) (a : Option Addr) (A : List Wx) : Prop where
  tb : Tb w a 1 wsl A
  im : ∀ x ∈ A, x.P.length = x.l ∧ Tb w x.a 2 ic x.P
theorem Rws.below {w w' : World} {a : Option Addr} {A : List Wx} (h : Rws w a A) (hb : Below w.heap.size w w') : Rws w' a A := ⟨h.tb.below hb, fun x hx => ⟨(h.im x hx).1, (h.im x hx).2.below hb⟩⟩
theorem Wnt.rws {w : World} {B c : Nat} {a : Option Addr} {A : List Wx} (h : Wnt w B (.slice a A.length c) A) : Rws w a A :=
  ⟨own_tb (fun _ => rfl) h.row rfl, fun x hx => ⟨(h.im x hx).1, own_tb (fun _ => rfl) (h.im x hx).2 (h.im x hx).1⟩⟩
set_option maxHeartbeats 2000000 in
theorem sameAll_any (a b : Option Addr) (ca cb n : Nat) (A B : List Wx) (w : World) (ha : Rws w a A) (hb : Rws w b B) (hA : A.length = n) (hB : B.length = n) (he : A.map (·.P) = B.map (·.P)) (hl : n ≤ 1000) (hp : ∀ x ∈ A, x.l ≤ 1000) :
    Calls Tryd.prog 19 #[.slice a n ca, .slice b n cb] w fun e w' => e = .returned (.bool true) ∧ Below w.heap.size w w' := by
  have HR0 : Box (∀ x, Below w.heap.size w x → Rws x a A ∧ Rws x b B) := ⟨fun x hx => ⟨ha.below hx, hb.below hx⟩⟩
  have HN : Box (A.length = n ∧ B.length = n ∧ (∀ i (h1 : i < A.length) (h2 : i < B.length), A[i].P = B[i].P) ∧ ∀ x ∈ A, x.l ≤ 1000) := ⟨hA, hB, fun i h1 h2 => by
    have := congrArg (fun L => L[i]?) he
    simpa [h1, h2] using this, hp⟩
  clear ha hb hA hB he hp
  go_enter Tryd.func19, Tryd.ntmps19
  go_wp2
  go_loopw [5] (fun i wr => ∃ k : Nat, k ≤ n ∧ i = .int .i64 (k : Int) ∧ Box (Below w.heap.size w wr)) (fun i _ => n - (intOf i).toNat)
  case atStart => exact ⟨0, Nat.zero_le _, rfl, ⟨Below.refl _ _⟩⟩
  case round =>
    obtain ⟨k, hk, rfl, HG⟩ := hrel
    by_cases hlt : k < n
    · have hlt1 : decide ((k : Int) < (n : Int)) = true := by simp; omega
      have hkA : k < A.length := by rw [HN.out.1]; exact hlt
      have hkB : k < B.length := by rw [HN.out.2.1]; exact hlt
      obtain ⟨hTa, hTb⟩ := HR0.out wr HG.out
      obtain ⟨b1, o1, e1, hbl1, hr1⟩ := hTa.tb (by omega)
      obtain ⟨b2, o2, e2, hbl2, hr2⟩ := hTb.tb (by omega)
      subst e1
      subst e2
      have HML : Box (k < n) := ⟨hlt⟩
      have h1 := hr1 k hkA
      have h2 := hr2 k hkB
      have i1 := hTa.im A[k] (List.getElem_mem hkA)
      have i2 := hTb.im B[k] (List.getElem_mem hkB)
      have hpe := HN.out.2.2.1 k hkA hkB
      have hl10 := HN.out.2.2.2 A[k] (List.getElem_mem hkA)
      obtain ⟨⟨xa, l, xc, XP⟩, hx⟩ : ∃ x, A[k] = x := ⟨_, rfl⟩
      obtain ⟨⟨ya, l2, yc, YP⟩, hy⟩ : ∃ x, B[k] = x := ⟨_, rfl⟩
      rw [hx] at h1 i1 hpe hl10
      rw [hy] at h2 i2 hpe
      dsimp only at i1 i2 hpe hl10
      subst hpe
      obtain rfl : l = l2 := by rw [← i1.1, ← i2.1]
      have HR : Box (∀ x, Below wr.heap.size wr x → x.cell? ⟨b1, o1 + k * 1, none⟩ = some (.slice xa l xc) ∧ x.cell? ⟨b2, o2 + k * 1, none⟩ = some (.slice ya l yc)) := ⟨fun x hx => ⟨(hx.cell hbl1).trans (h1 0 _ rfl), (hx.cell hbl2).trans (h2 0 _ rfl)⟩⟩
      have HSM : Box (∀ x, Below wr.heap.size wr x → Calls Tryd.prog 11 #[.slice xa l xc, .slice ya l yc] x fun e w' => e = .returned (.bool true) ∧ Below x.heap.size x w') := ⟨fun x hx => by
        have := rsame_any xa ya xc yc XP x (i1.2.below hx) (i2.2.below hx) (by omega)
        rw [i1.1] at this
        exact this⟩
      have hw4 : IntKind.i64.wrap ((k : Int) + 1) = ((k + 1 : Nat) : Int) := by rw [IntKind.wrap_i64]; omega
      clear hr1 hr2 h1 h2 hx hy hTa hTb i1 i2 hl10
      go_upto_region 6 with fail
      refine Seq.begin_any (by kernel_rfl) (fun wd hd => ?_)
      have hbd : Below wr.heap.size wr wd := hd.mono (Nat.le_refl _)
      refine Seq.take_lat (i := 0) (v := ?_) rfl (by kernel_rfl) (by kernel_rfl) (by kernel_rfl) (fun _ _ _ h => h) (by rfl) ?_ ?_
      rotate_left
      · intro w' hLat; change Below _ _ _ at hLat; go_simp <;> with_reducible rfl
      try simp only [Act.put, List.setIfInBounds_toArray, List.set_cons_zero, List.set_cons_succ, List.getElem_toArray, List.getElem_cons_zero]
      refine Seq.take_lat (i := 1) (v := ?_) rfl (by kernel_rfl) (by kernel_rfl) (by kernel_rfl) (fun _ _ _ h => h) (by rfl) ?_ ?_
      rotate_left
      · intro w' hLat; change Below _ _ _ at hLat; go_simp <;> with_reducible rfl
      try simp only [Act.put, List.setIfInBounds_toArray, List.set_cons_zero, List.set_cons_succ, List.getElem_toArray, List.getElem_cons_zero, List.getElem_cons_succ]
      refine Seq.take_lat (i := 2) (v := .pointer (some ⟨b1, o1 + k * 1, none⟩)) rfl (by kernel_rfl) (by kernel_rfl) (by kernel_rfl) (fun _ _ _ h => h) (by rfl) (fun w' hLat => exec_idxT 28 26 Tryd.underlying28 1 infoSlIz _ _ rfl b1 o1 n ca k rfl rfl HML.out) ?_
      try simp only [Act.put, List.setIfInBounds_toArray, List.set_cons_zero, List.set_cons_succ, List.getElem_toArray, List.getElem_cons_zero, List.getElem_cons_succ]
      refine Seq.take_lat (i := 3) (v := .slice xa l xc) rfl (by kernel_rfl) (by kernel_rfl) (by kernel_rfl) (fun _ _ _ h => h) (by rfl) (fun w' hLat => exec_load1 26 _ _ rfl Tryd.underlying26 rfl ⟨b1, o1 + k * 1, none⟩ rfl _ ((HR.out w' (below_to hbd hLat)).1)) ?_
      try simp only [Act.put, List.setIfInBounds_toArray, List.set_cons_zero, List.set_cons_succ, List.getElem_toArray, List.getElem_cons_zero, List.getElem_cons_succ]
      refine Seq.take_lat (i := 4) (v := ?_) rfl (by kernel_rfl) (by kernel_rfl) (by kernel_rfl) (fun _ _ _ h => h) (by rfl) ?_ ?_
      rotate_left
      · intro w' hLat; change Below _ _ _ at hLat; go_simp <;> with_reducible rfl
      try simp only [Act.put, List.setIfInBounds_toArray, List.set_cons_zero, List.set_cons_succ, List.getElem_toArray, List.getElem_cons_zero, List.getElem_cons_succ]
      refine Seq.take_lat (i := 5) (v := ?_) rfl (by kernel_rfl) (by kernel_rfl) (by kernel_rfl) (fun _ _ _ h => h) (by rfl) ?_ ?_
      rotate_left
      · intro w' hLat; change Below _ _ _ at hLat; go_simp <;> with_reducible rfl
      try simp only [Act.put, List.setIfInBounds_toArray, List.set_cons_zero, List.set_cons_succ, List.getElem_toArray, List.getElem_cons_zero, List.getElem_cons_succ]
      refine Seq.take_lat (i := 6) (v := .pointer (some ⟨b2, o2 + k * 1, none⟩)) rfl (by kernel_rfl) (by kernel_rfl) (by kernel_rfl) (fun _ _ _ h => h) (by rfl) (fun w' hLat => exec_idxT 28 26 Tryd.underlying28 1 infoSlIz _ _ rfl b2 o2 n cb k rfl rfl HML.out) ?_
      try simp only [Act.put, List.setIfInBounds_toArray, List.set_cons_zero, List.set_cons_succ, List.getElem_toArray, List.getElem_cons_zero, List.getElem_cons_succ]
      refine Seq.take_lat (i := 7) (v := .slice ya l yc) rfl (by kernel_rfl) (by kernel_rfl) (by kernel_rfl) (fun _ _ _ h => h) (by rfl) (fun w' hLat => exec_load1 26 _ _ rfl Tryd.underlying26 rfl ⟨b2, o2 + k * 1, none⟩ rfl _ ((HR.out w' (below_to hbd hLat)).2)) ?_
      try simp only [Act.put, List.setIfInBounds_toArray, List.set_cons_zero, List.set_cons_succ, List.getElem_toArray, List.getElem_cons_zero, List.getElem_cons_succ]
      refine Seq.only_lat (i := 8) rfl (by kernel_rfl) (fun KK hK => ?_)
      rw [if_pos (by rfl)]
      go_simp
      refine Calls.mono (HSM.out wd hbd) ?_
      rintro e w2 ⟨rfl, hb2⟩
      have H2 : Box (Below w.heap.size w w2) := ⟨below_to HG.out (below_to hbd hb2)⟩
      refine hK.out _ _ hb2 ?_
      clear hb2
      clear hK KK
      try simp only [Act.put, List.setIfInBounds_toArray, List.set_cons_zero, List.set_cons_succ, List.getElem_toArray, List.getElem_cons_zero, List.getElem_cons_succ]
      refine Seq.take_lat (i := 9) (v := ?_) rfl (by kernel_rfl) (by kernel_rfl) (by kernel_rfl) (fun _ _ _ h => h) (by rfl) ?_ ?_
      rotate_left
      · intro w' hLat; change Below _ _ _ at hLat; go_simp <;> with_reducible rfl
      try simp only [Act.put, List.setIfInBounds_toArray, List.set_cons_zero, List.set_cons_succ, List.getElem_toArray, List.getElem_cons_zero, List.getElem_cons_succ]
      refine wpAnyH_done (by kernel_rfl) ?_ _
      go_wp2
      go_roundw
      case rel => exact ⟨k + 1, by omega, by go_num, H2⟩
      case measure => simp [intOf]; omega
    · have hlt1 : decide ((k : Int) < (n : Int)) = false := by simp; omega
      obtain rfl : k = n := by omega
      go_wp2
      go_ret
      exact ⟨rfl, HG.out⟩
end Go.Proofs.YteaejodihmnbcaaDoor
