/-
  The reference's Changes.
-/
import Derived.Test.YtgdjdlakndajgaaRH
namespace Go.Proofs.Ytgdjdlakndajgaa
set_option linter.unusedVariables false
open Go.RowKit Plain

theorem infSlJ : (Try.prog.info? 53).map (fun i => (i.zero, i.size, i.bytes)) = some (some (.slice none 0 0), 1, 24) := by kernel_rfl
/-- So far. -/
structure RcK (w wr : World) (L : List ((Int × List Int) × Bool)) (k : Nat) (v nv : Value) (Wn : List Wx) (nw : List (Int × List Int)) : Prop where
  out : wr.ownsRow w.heap.size 53 1 v Wn.length (Wn.map wsl).flatten
  wim : ∀ x ∈ Wn, x.P.length = x.l ∧ wr.ownsRow w.heap.size 37 2 (.slice x.a x.l x.c) x.l (x.P.map ic).flatten
  now : wr.ownsRow w.heap.size 37 2 nv nw.length (nw.map ic).flatten
  ap : ∀ x ∈ Wn, ∀ k, (Value.slice x.a x.l x.c).ownBlock = some k → nv.ownBlock ≠ some k
  c1 : Wn.map (·.P) = (chS (L.take k)).1
  c2 : nw = (chS (L.take k)).2
  bel : Below w.heap.size w wr
/-- One image more in what is open. -/
structure RcH (w wr : World) (L : List ((Int × List Int) × Bool)) (k : Nat) (v nv : Value) (Wn : List Wx) (nw : List (Int × List Int)) (x : Int × List Int) : Prop where
  out : wr.ownsRow w.heap.size 53 1 v Wn.length (Wn.map wsl).flatten
  wim : ∀ x ∈ Wn, x.P.length = x.l ∧ wr.ownsRow w.heap.size 37 2 (.slice x.a x.l x.c) x.l (x.P.map ic).flatten
  now : wr.ownsRow w.heap.size 37 2 nv (nw.length + 1) ((nw ++ [x]).map ic).flatten
  ap : ∀ x ∈ Wn, ∀ k, (Value.slice x.a x.l x.c).ownBlock = some k → nv.ownBlock ≠ some k
  c1 : Wn.map (·.P) = (chS (L.take k)).1
  c2 : nw = (chS (L.take k)).2
  bel : Below w.heap.size w wr
theorem RcK.more {w wr w' : World} {L : List ((Int × List Int) × Bool)} {k : Nat} {v nv nv' : Value} {Wn : List Wx} {nw : List (Int × List Int)} (h : RcK w wr L k v nv Wn nw) (x : Int × List Int) (ho : w'.ownsRow w.heap.size 37 2 nv' (nw.length + 1) ((nw.map ic).flatten ++ ic x)) (hg : wr.grownBy w' nv.ownBlock) (hb : ∀ k, nv'.ownBlock = some k → nv.ownBlock = some k ∨ wr.heap.size ≤ k) : RcH w w' L k v nv' Wn nw x := by
  refine ⟨own_grown h.out h.now (by decide) hg, fun y hy => ⟨(h.wim y hy).1, own_same (h.wim y hy).2 (fun j hj => hg.block j ((h.wim y hy).2.lt j hj).2 (fun e => h.ap y hy j hj e.symm))⟩, ?_, fun y hy j hj e => ?_, h.c1, h.c2, h.bel.grown hg h.bel.size (fun j hj => (own_blk h.now j hj).1)⟩
  · simp only [List.map_append, List.map_cons, List.map_nil, List.flatten_append, List.flatten_cons, List.flatten_nil, List.append_nil]
    exact ho
  · rcases hb j e with h1 | h1
    · exact h.ap y hy j hj h1
    · have := ((h.wim y hy).2.lt j hj).2
      omega
theorem RcH.go {w wr : World} {L : List ((Int × List Int) × Bool)} {k : Nat} {v nv : Value} {Wn : List Wx} {nw : List (Int × List Int)} {x : Int × List Int} (h : RcH w wr L k v nv Wn nw x) (hk : k < L.length) (hx : L[k] = (x, false)) : RcK w wr L (k + 1) v nv Wn (nw ++ [x]) := by
  have hch := chS_take L k hk
  rw [hx] at hch
  refine ⟨h.out, h.wim, by rw [List.length_append]; exact h.now, h.ap, ?_, ?_, h.bel⟩
  · rw [hch, h.c1]; simp [chSt]
  · rw [hch, h.c2]; simp [chSt]
theorem RcH.ends {w wr w' : World} {L : List ((Int × List Int) × Bool)} {k : Nat} {v v' : Value} {a : Option Addr} {c : Nat} {Wn : List Wx} {nw : List (Int × List Int)} {x : Int × List Int} (h : RcH w wr L k v (.slice a (nw.length + 1) c) Wn nw x) (hk : k < L.length) (hx : L[k] = (x, true)) (ho : w'.ownsRow w.heap.size 53 1 v' (Wn.length + 1) ((Wn.map wsl).flatten ++ [.slice a (nw.length + 1) c])) (hg : wr.grownBy w' v.ownBlock) : RcK w w' L (k + 1) v' (.slice none 0 0) (Wn ++ [⟨a, nw.length + 1, c, nw ++ [x]⟩]) [] := by
  have hch := chS_take L k hk
  rw [hx] at hch
  refine ⟨?_, fun y hy => ?_, World.ownsRow_nil _ _ _ _, fun y hy j hj e => by simp [Value.ownBlock] at e, ?_, ?_, h.bel.grown hg h.bel.size (fun j hj => (own_blk h.out j hj).1)⟩
  · rw [List.length_append, List.map_append, List.flatten_append]
    simpa [wsl] using ho
  · rcases List.mem_append.1 hy with hy | hy
    · exact ⟨(h.wim y hy).1, own_grown (h.wim y hy).2 h.out (by decide) hg⟩
    · simp only [List.mem_cons, List.not_mem_nil, or_false] at hy
      subst hy
      exact ⟨by simp, own_grown h.now h.out (by decide) hg⟩
  · rw [hch, List.map_append, h.c1, h.c2]; simp [chSt]
  · rw [hch]; simp [chSt]
set_option maxRecDepth 20000 in
set_option maxHeartbeats 2000000 in
theorem rch_any (a : Option Addr) (cap : Nat) (L : List ((Int × List Int) × Bool)) (w : World) (h : Tb w a 3 rrc L) (hl : L.length ≤ 1000) :
    Calls Try.prog 19 #[.slice a L.length cap] w fun e w' => Below w.heap.size w w' ∧ (((chS L).2 ≠ [] ∧ e = .returned (.tuple #[.slice none 0 0, .int .i64 11])) ∨ ((chS L).2 = [] ∧ ∃ (v : Value) (Wn : List Wx), e = .returned (.tuple #[v, .int .i64 0]) ∧ w'.ownsRow w.heap.size 53 1 v Wn.length (Wn.map wsl).flatten ∧ (∀ x ∈ Wn, x.P.length = x.l ∧ w'.ownsRow w.heap.size 37 2 (.slice x.a x.l x.c) x.l (x.P.map ic).flatten) ∧ Wn.map (·.P) = (chS L).1)) := by
  obtain ⟨n, hn⟩ : ∃ n, L.length = n := ⟨_, rfl⟩
  rw [hn] at hl ⊢
  have HN : Box (L.length = n) := ⟨hn⟩
  have HR : Box (∀ x, Below w.heap.size w x → Tb x a 3 rrc L) := ⟨fun x hx => h.below hx⟩
  clear h hn
  go_enter Try.func19, Try.ntmps19
  go_wp2
  go_loopw [4, 5, 6] (fun v nv i wr => ∃ (k : Nat) (Wn : List Wx) (nw : List (Int × List Int)), k ≤ n ∧ i = .int .i64 (k : Int) ∧ Box (RcK w wr L k v nv Wn nw ∧ Wn.length ≤ k ∧ nw.length ≤ k)) (fun _ _ i _ => n - (intOf i).toNat)
  case atStart => exact ⟨0, [], [], Nat.zero_le _, rfl, ⟨⟨World.ownsRow_nil _ _ _ _, fun x hx => by simp at hx, World.ownsRow_nil _ _ _ _, fun x hx => by simp at hx, by simp [chS], by simp [chS], Below.refl _ _⟩, by simp, by simp⟩⟩
  case round =>
    obtain ⟨k, Wn, nw, hk, rfl, HK⟩ := hrel
    by_cases hlt : k < n
    · have hlt1 : decide ((k : Int) < (n : Int)) = true := by simp; omega
      have hkL : k < L.length := by have := HN.out; omega
      obtain ⟨b, o, hae, hbl, hr⟩ := HR.out w (Below.refl _ _) (by omega)
      subst hae
      have hrk := hr k hkL
      obtain ⟨⟨⟨blk, bs⟩, lst⟩, hLk⟩ : ∃ x, L[k] = x := ⟨_, rfl⟩
      rw [hLk] at hrk
      obtain ⟨s, hs⟩ : ∃ s, strOfNums bs = s := ⟨_, rfl⟩
      have HRg : Box (∀ x, Below w.heap.size w x → x.rangeAt b (o + k * 3) [.int .u64 blk, .string s] ∧ x.cell? ⟨b, o + k * 3 + 2, none⟩ = some (.bool lst)) := ⟨fun x hx => by
        have hx2 := range_below hx hrk hbl
        refine ⟨fun j u hu => ?_, hx2 2 _ rfl⟩
        rw [← hs] at hu
        match j, hu with
        | 0, hu => exact hx2 0 u hu
        | 1, hu => exact hx2 1 u hu
        | j + 2, hu => simp at hu⟩
      have HMO : Box (∀ w' nv', w'.ownsRow w.heap.size 37 2 nv' (nw.length + 1) ((nw.map ic).flatten ++ [.int .u64 blk, .string s]) → wr.grownBy w' u5.ownBlock → (∀ k, nv'.ownBlock = some k → u5.ownBlock = some k ∨ wr.heap.size ≤ k) → RcH w w' L k u4 nv' Wn nw (blk, bs)) := ⟨fun w' nv' h1 h2 h3 => HK.out.1.more (blk, bs) (by rw [← hs] at h1; exact h1) h2 h3⟩
      have HGO : Box (∀ w' nv', RcH w w' L k u4 nv' Wn nw (blk, bs) → lst = false → RcK w w' L (k + 1) u4 nv' Wn (nw ++ [(blk, bs)])) := ⟨fun w' nv' h1 h2 => h1.go hkL (by rw [hLk, h2])⟩
      have HEN : Box (∀ wy w' a' c' v', RcH w wy L k u4 (.slice a' (nw.length + 1) c') Wn nw (blk, bs) → lst = true → w'.ownsRow w.heap.size 53 1 v' (Wn.length + 1) ((Wn.map wsl).flatten ++ [.slice a' (nw.length + 1) c']) → wy.grownBy w' u4.ownBlock → RcK w w' L (k + 1) v' (.slice none 0 0) (Wn ++ [⟨a', nw.length + 1, c', nw ++ [(blk, bs)]⟩]) []) := ⟨fun wy w' a' c' v' h1 h2 h3 h4 => h1.ends hkL (by rw [hLk, h2]) h3 h4⟩
      have HR1 : Box (wr.rangeAt b (o + k * 3) [.int .u64 blk, .string s]) := ⟨(HRg.out wr HK.out.1.bel).1⟩
      have HLT : Box (k < n) := ⟨hlt⟩
      have HOW : Box (wr.ownsRow w.heap.size 37 2 u5 nw.length (nw.map ic).flatten ∧ w.heap.size ≤ wr.heap.size ∧ nw.length ≤ 1000000 ∧ Wn.length ≤ 1000000 ∧ Wn.length ≤ k ∧ nw.length ≤ k) := ⟨HK.out.1.now, HK.out.1.bel.size, by have := HK.out.2.2; omega, by have := HK.out.2.1; omega, HK.out.2⟩
      have hw4 : IntKind.i64.wrap ((k : Int) + 1) = ((k + 1 : Nat) : Int) := by rw [IntKind.wrap_i64]; omega
      clear hr hrk hLk hs hkL
      go_upto_region 7 with (first
        | (refine atIdx 50 ?_; refine wpList_run rfl _ _ (exec_idxT 50 39 Try.underlying50 3 infoRr _ _ rfl b o n cap k rfl rfl HLT.out) ?_)
        | (refine atLoad 37 ?_; refine wpList_ldMid rfl 37 _ _ rfl Try.underlying37 rfl b (o + k * 3) rfl [.int .u64 blk, .string s] infoI HR1.out ?_)
        | (at_builtin; refine wpList_appS 53 37 Try.underlying53 2 24 _ infI rfl (by decide) rfl (.tmp 13) (.tmp 19) rfl w.heap.size nw.length u5 (nw.map ic).flatten [.int .u64 blk, .string s] wr rfl rfl rfl HOW.out.1 rfl (by simp [Value.oneCell']) HOW.out.2.2.1 (by decide) HOW.out.2.1 ?_; intro nv3 x3 hown hgr hblk; have H3 : Box (RcH w x3 L k u4 nv3 Wn nw (blk, bs)) := ⟨HMO.out x3 nv3 hown hgr hblk⟩; clear hown hgr hblk))
      have hc2 := (HRg.out x3 H3.out.bel).2
      obtain ⟨na, nc, rfl⟩ := own_form2 H3.out.now
      cases lst
      · have HK2 : Box _ := ⟨HGO.out x3 _ H3.out rfl⟩
        go_wp2_with (refine atIdx 50 ?_; refine wpList_run rfl _ _ (exec_idxT 50 39 Try.underlying50 3 infoRr _ _ rfl b o n cap k rfl rfl HLT.out) ?_)
        go_roundw
        case rel => exact ⟨k + 1, Wn, nw ++ [(blk, bs)], HLT.out, by go_num, ⟨HK2.out, by have := HOW.out.2.2.2.2.1; omega, by have := HOW.out.2.2.2.2.2; simp; omega⟩⟩
        case measure => simp [intOf]; have := HLT.out; omega
      · have HO3 : Box (x3.ownsRow w.heap.size 53 1 u4 Wn.length (Wn.map wsl).flatten ∧ w.heap.size ≤ x3.heap.size) := ⟨H3.out.out, H3.out.bel.size⟩
        obtain ⟨nl, hnl⟩ : ∃ nl, nw.length + 1 = nl := ⟨_, rfl⟩
        rw [hnl] at H3 HEN ⊢
        go_wp2_with (first
          | (refine atIdx 50 ?_; refine wpList_run rfl _ _ (exec_idxT 50 39 Try.underlying50 3 infoRr _ _ rfl b o n cap k rfl rfl HLT.out) ?_)
          | (at_builtin; refine wpList_appR 58 53 Try.underlying58 1 24 _ infSlJ rfl (by decide) rfl (.tmp 26) (.tmp 28) rfl w.heap.size Wn.length u4 (Wn.map wsl).flatten [.slice na nl nc] x3 rfl rfl rfl HO3.out.1 rfl (by simp [Value.oneCell']) HOW.out.2.2.2.1 (by decide) (by decide) HO3.out.2 ?_; intro v5 x5 hown hgr; have H5 : Box (RcK w x5 L (k + 1) v5 (.slice none 0 0) (Wn ++ [⟨na, nl, nc, nw ++ [(blk, bs)]⟩]) []) := ⟨HEN.out x3 x5 na nc v5 H3.out rfl hown hgr⟩; clear hown hgr))
        go_roundw
        case rel => exact ⟨k + 1, _, [], HLT.out, by go_num, ⟨H5.out, by have := HOW.out.2.2.2.2.1; simp; omega, by simp⟩⟩
        case measure => simp [intOf]; have := HLT.out; omega
    · obtain rfl : k = n := by omega
      have hlt1 : decide ((k : Int) < (k : Int)) = false := by simp
      have HT : Box (L.take k = L) := ⟨List.take_of_length_le (by rw [HN.out]; exact Nat.le_refl _)⟩
      have HC : Box (nw = (chS L).2 ∧ Wn.map (·.P) = (chS L).1) := ⟨by have := HK.out.1.c2; rwa [HT.out] at this, by have := HK.out.1.c1; rwa [HT.out] at this⟩
      obtain ⟨na, nc, rfl⟩ := own_form2 HK.out.1.now
      by_cases h0 : 0 < nw.length
      · have hgt : (0 : Int) < (nw.length : Int) := by omega
        go_wp2
        go_ret2
        exact ⟨HK.out.1.bel, .inl ⟨fun e => by rw [← HC.out.1] at e; subst e; simp at h0, rfl⟩⟩
      · have hgt : ¬ (0 : Int) < (nw.length : Int) := by omega
        go_wp2
        go_ret2
        refine ⟨HK.out.1.bel, Or.inr ⟨?_, _, rfl, Wn, HK.out.1.out, HK.out.1.wim, HC.out.2⟩⟩
        rw [← HC.out.1]
        exact List.eq_nil_of_length_eq_zero (by omega)
end Go.Proofs.Ytgdjdlakndajgaa
