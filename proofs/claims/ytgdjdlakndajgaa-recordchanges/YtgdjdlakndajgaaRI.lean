/-
  RecordChanges: the records of any change, and the changes of any records, are the document's, or refused.
-/
import Derived.Test.YtgdjdlakndajgaaRJ
import Derived.Test.YtgdjdlakndajgaaRB
import Derived.Test.YtgdjdlakndajgaaRG
namespace Go.Proofs.Ytgdjdlakndajgaa
set_option linter.unusedVariables false
open Go.RowKit Plain

theorem Chs.to {w w' : World} {B : Nat} {v : Value} {C : List Sx} (h : Chs w B v C) (hb : Below w.heap.size w w') : Chs w' B v C := by
  refine ⟨own_to h.row hb, fun c hc => ?_⟩
  obtain ⟨h1, ⟨g, p, h2, h3, h4, h5⟩, h6⟩ := h.im c hc
  exact ⟨h1, ⟨g, p, h2, Nat.lt_of_lt_of_le h3 hb.size, h4, fun i hi => range_below hb (h5 i hi) h3⟩, fun m hm => (h6 m hm).to hb⟩
set_option maxHeartbeats 400000 in
theorem rof_zero (a : Option Addr) (n cap : Nat) (HZ : Box (n = 0)) (w : World) : Calls Try.prog 16 #[.slice a n cap] w fun e w' => e = .returned (.tuple #[.slice none 0 0, .int .i64 1]) ∧ Below w.heap.size w w' := by
  have hz : ((n : Int) == 0) = true := by have := HZ.out; simp [this]
  go_enter Try.func16, Try.ntmps16
  go_wp2
  go_ret2
  exact ⟨rfl, Below.refl _ _⟩
/-- What the law gathers: records, and the model's. -/
structure Gr (w wr : World) (RR : List Rc) (k : Nat) (v u : Value) : Prop where
  rs : wr.ownsRow w.heap.size 30 3 v k ((RR.take k).map rcc).flatten
  ms : wr.ownsRow w.heap.size 39 3 u k (((RR.map rpl).take k).map rrc).flatten
  bel : Below w.heap.size w wr
theorem Gr.one {w wr wd w' : World} {RR : List Rc} {k : Nat} {v v' u : Value} (h : Gr w wr RR k v u) (hk : k < RR.length) (hb : Below wr.heap.size wr wd) (ho : w'.ownsRow w.heap.size 30 3 v' (k + 1) (((RR.take k).map rcc).flatten ++ rcc RR[k])) (hg : wd.grownBy w' v.ownBlock) : w'.ownsRow w.heap.size 30 3 v' (k + 1) ((RR.take (k + 1)).map rcc).flatten ∧ w'.ownsRow w.heap.size 39 3 u k (((RR.map rpl).take k).map rrc).flatten ∧ Below w.heap.size w w' := by
  refine ⟨?_, own_grown (own_to h.ms hb) (own_to h.rs hb) (by decide) hg, (below_to h.bel hb).grown hg (below_to h.bel hb).size (fun j hj => (own_blk (own_to h.rs hb) j hj).1)⟩
  rw [List.take_succ_eq_append_getElem hk]
  simp only [List.map_append, List.map_cons, List.map_nil, List.flatten_append, List.flatten_cons, List.flatten_nil, List.append_nil]
  exact ho
theorem Gr.two {w wd w' : World} {RR : List Rc} {k : Nat} {v u u' : Value} (hk : k < RR.length) (h1 : wd.ownsRow w.heap.size 30 3 v (k + 1) ((RR.take (k + 1)).map rcc).flatten) (h2 : wd.ownsRow w.heap.size 39 3 u k (((RR.map rpl).take k).map rrc).flatten) (hb : Below w.heap.size w wd) (ho : w'.ownsRow w.heap.size 39 3 u' (k + 1) ((((RR.map rpl).take k).map rrc).flatten ++ rrc (rpl RR[k]))) (hg : wd.grownBy w' u.ownBlock) : Gr w w' RR (k + 1) v u' := by
  have hk2 : k < (RR.map rpl).length := by simpa using hk
  refine ⟨own_grown h1 h2 (by decide) hg, ?_, hb.grown hg hb.size (fun j hj => (own_blk h2 j hj).1)⟩
  rw [List.take_succ_eq_append_getElem hk2]
  simp only [List.map_append, List.map_cons, List.map_nil, List.flatten_append, List.flatten_cons, List.flatten_nil, List.append_nil, List.getElem_map]
  exact ho
set_option maxRecDepth 20000 in
set_option maxHeartbeats 2000000 in
theorem rof_bad (a : Option Addr) (cap : Nat) (P : List (Int × List Int)) (w : World) (h : Tb w a 2 ic P) (hl : P.length ≤ 1000) (h0 : 0 < P.length) (hall : ∃ x ∈ P, x.2.length ≠ 160) :
    Calls Try.prog 16 #[.slice a P.length cap] w fun e w' => e = .returned (.tuple #[.slice none 0 0, .int .i64 1]) ∧ Below w.heap.size w w' := by
  obtain ⟨b, o, rfl, hbl, hr⟩ := h h0
  obtain ⟨n, hn⟩ : ∃ n, P.length = n := ⟨_, rfl⟩
  rw [hn] at hl h0 ⊢
  have HN : Box (P.length = n ∧ ∃ x ∈ P, x.2.length ≠ 160) := ⟨hn, hall⟩
  have hz : ((n : Int) == 0) = false := by simp; omega
  have HR : Box (∀ x, Below w.heap.size w x → ∀ k (hk : k < P.length), x.rangeAt b (o + k * 2) (ic P[k])) := ⟨fun x hx k hk => range_below hx (hr k hk) hbl⟩
  clear h hr hall
  go_enter Try.func16, Try.ntmps16
  go_wp2
  go_loopw [4, 5] (fun v i wr => ∃ k : Nat, k ≤ n ∧ i = .int .i64 (k : Int) ∧ Box (RoK w wr P k v ∧ ∀ i (hi : i < P.length), i < k → P[i].2.length = 160)) (fun _ i _ => n - (intOf i).toNat)
  case atStart => exact ⟨0, Nat.zero_le _, rfl, ⟨⟨World.ownsRow_nil _ _ _ _, Below.refl _ _⟩, fun i hi h => by omega⟩⟩
  case round =>
    obtain ⟨k, hk, rfl, HK⟩ := hrel
    by_cases hlt : k < n
    · by_cases hgood : (P[k]'(by have := HN.out.1; omega)).2.length = 160
      rotate_left
      · have hlt1 : decide ((k : Int) < (n : Int)) = true := by simp; omega
        have hkP : k < P.length := by have := HN.out.1; omega
        have hrk := HR.out wr HK.out.1.bel k hkP
        obtain ⟨⟨blk, L⟩, hpp⟩ : ∃ x, P[k] = x := ⟨_, rfl⟩
        rw [hpp] at hrk hgood
        simp only at hgood
        obtain ⟨s, hs⟩ : ∃ s, strOfNums L = s := ⟨_, rfl⟩
        have hsz : ¬ s.size = 160 := by rw [← hs, str_size]; exact hgood
        have hsz2 : ((s.size : Int) != 160) = true := by simp; omega
        have hc1 : wr.cell? ⟨b, o + k * 2 + 1, none⟩ = some (.string s) := by rw [← hs]; exact hrk 1 _ rfl
        have HLT : Box (k < n) := ⟨hlt⟩
        clear hrk hgood hpp hs hkP
        go_wp2_with (refine atIdx 53 ?_; refine wpList_run rfl _ _ (exec_idxT 53 37 Try.underlying53 2 infoI _ _ rfl b o n cap k rfl rfl HLT.out) ?_)
        go_ret2
        exact ⟨rfl, HK.out.1.bel⟩
      have HGD : Box (∀ i (hi : i < P.length), i < k + 1 → P[i].2.length = 160) := ⟨fun i hi h => by
        by_cases e : i = k
        · subst e; exact hgood
        · exact HK.out.2 i hi (by omega)⟩
      have hlt1 : decide ((k : Int) < (n : Int)) = true := by simp; omega
      have hkP : k < P.length := by have := HN.out.1; omega
      have hrk := HR.out wr HK.out.1.bel k hkP
      have hle := hgood
      have hof : (ofP P)[k]'(by rw [len_ofP]; exact hkP) = (P[k], decide (k + 1 = n)) := by simp [ofP, HN.out.1]
      obtain ⟨⟨blk, L⟩, hpp⟩ : ∃ x, P[k] = x := ⟨_, rfl⟩
      rw [hpp] at hrk hle hof
      obtain ⟨s, hs⟩ : ∃ s, strOfNums L = s := ⟨_, rfl⟩
      have hsz : s.size = 160 := by rw [← hs, str_size]; exact hle
      have HRg : Box (wr.rangeAt b (o + k * 2) [.int .u64 blk, .string s]) := ⟨by rw [← hs]; exact hrk⟩
      have hc1 : wr.cell? ⟨b, o + k * 2 + 1, none⟩ = some (.string s) := HRg.out 1 _ rfl
      obtain ⟨bb, hbb⟩ : ∃ bb, decide (k + 1 = n) = bb := ⟨_, rfl⟩
      have hb2 : (((k : Int) + 1) == (n : Int)) = bb := by rw [← hbb, Bool.eq_iff_iff]; simp; omega
      have HST : Box (∀ w' v', w'.ownsRow w.heap.size 39 3 v' (k + 1) ((((ofP P).take k).map rrc).flatten ++ [.int .u64 blk, .string s, .bool bb]) → wr.grownBy w' u4.ownBlock → RoK w w' P (k + 1) v') := ⟨fun w' v' h1 h2 => by
        have hk2 : k < (ofP P).length := by rw [len_ofP]; exact hkP
        refine ⟨?_, HK.out.1.bel.grown h2 HK.out.1.bel.size (fun j hj => (own_blk HK.out.1.row j hj).1)⟩
        rw [List.take_succ_eq_append_getElem hk2, hof, hbb]
        simp only [List.map_append, List.map_cons, List.map_nil, List.flatten_append, List.flatten_cons, List.flatten_nil, List.append_nil]
        have e : rrc ((blk, L), bb) = [.int .u64 blk, .string s, .bool bb] := by rw [← hs]; rfl
        rw [e]
        exact h1⟩
      have HLT : Box (k < n) := ⟨hlt⟩
      have HOW : Box (w.heap.size ≤ wr.heap.size ∧ k ≤ 1000000) := ⟨HK.out.1.bel.size, by omega⟩
      have hw4 : IntKind.i64.wrap ((k : Int) + 1) = ((k : Int) + 1) := by rw [IntKind.wrap_i64]; omega
      clear hrk hle hof hpp hs hbb hkP hgood
      go_wp2_with (first
        | (refine atIdx 53 ?_; refine wpList_run rfl _ _ (exec_idxT 53 37 Try.underlying53 2 infoI _ _ rfl b o n cap k rfl rfl HLT.out) ?_)
        | (refine atLoad 37 ?_; refine wpList_ldMid rfl 37 _ _ rfl Try.underlying37 rfl b (o + k * 2) rfl [.int .u64 blk, .string s] infoI HRg.out ?_)
        | (refine atBuild 39 ?_; refine wpList_run rfl _ _ (exec_built 39 [(0, .tmp 26), (1, .tmp 31)] rfl [(0, .agg #[.int .u64 blk, .string s]), (1, .bool bb)] rfl _ (built_Rr _ _ _)) ?_)
        | (at_builtin; refine wpList_appR 50 39 Try.underlying50 3 32 _ infRr rfl (by decide) rfl (.tmp 22) (.tmp 33) rfl w.heap.size k u4 (((ofP P).take k).map rrc).flatten [.int .u64 blk, .string s, .bool bb] wr rfl rfl rfl HK.out.1.row rfl (by simp [Value.oneCell']) HOW.out.2 (by decide) (by decide) HOW.out.1 ?_; intro v3 x3 hown hgr; have H3 : Box (RoK w x3 P (k + 1) v3) := ⟨HST.out x3 v3 hown hgr⟩; clear hown hgr))
      go_roundw
      case rel => exact ⟨k + 1, HLT.out, by go_num, ⟨H3.out, HGD.out⟩⟩
      case measure => simp [intOf]; have := HLT.out; omega
    · exfalso
      obtain ⟨m, hm, hne⟩ := HN.out.2
      obtain ⟨i, hi, rfl⟩ := List.getElem_of_mem hm
      exact hne (HK.out.2 i hi (by have := HN.out.1; omega))
end Go.Proofs.Ytgdjdlakndajgaa
