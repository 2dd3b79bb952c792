/-
  ReplayLatest: the last bytes of each block of any changes.
-/
import Derived.Test.YteaejodihmnbcaaDoorQ36
import Derived.Test.YteaejodihmnbcaaDoorQ39
namespace Go.Proofs.YteaejodihmnbcaaDoor
set_option maxRecDepth 100000
set_option linter.unusedVariables false
open Go.RowKit Plain
attribute [local go_sem] Oper.semAt_some
/-- Only bytes below B may have turned. -/
structure Mt (B0 B : Nat) (a b : World) : Prop where
  os : b.os = a.os
  tape : b.tape = a.tape
  output : b.output = a.output
  size : b.heap.size = a.heap.size
  keep : ∀ k : Nat, (B ≤ k ∨ k < B0 ∨ ∀ (cs : Array Value) (fr : Nat × Nat), a.heap[k]? ≠ some (.cells cs 5 fr)) → b.heap[k]? = a.heap[k]?
  byt : ∀ (k : Nat) (cs : Array Value), a.heap[k]? = some (.cells cs 5 (0, 0)) → ∃ cs' : Array Value, b.heap[k]? = some (.cells cs' 5 (0, 0)) ∧ cs'.size = cs.size ∧ ∀ (i : Nat) (z : Int), cs[i]? = some (.int .u8 z) → ∃ z', cs'[i]? = some (.int .u8 z')
theorem Mt.refl (B0 B : Nat) (a : World) : Mt B0 B a a := ⟨rfl, rfl, rfl, rfl, fun _ _ => rfl, fun k cs h => ⟨cs, h, rfl, fun i z h => ⟨z, h⟩⟩⟩
theorem Mt.set {B0 B : Nat} {a b : World} (h : Mt B0 B a b) (g i : Nat) (cs : Array Value) (hg : a.heap[g]? = some (.cells cs 5 (0, 0))) (hlo : B0 ≤ g) (hhi : g < B) (z : Int) : Mt B0 B a (b.setCell ⟨g, i, none⟩ (.int .u8 z)) := by
  refine ⟨h.os, h.tape, h.output, by simpa using h.size, fun k hk => ?_, fun k cs2 hk => ?_⟩
  · have hne : k ≠ g := by
      intro e
      subst e
      rcases hk with hk | hk | hk
      · omega
      · omega
      · exact hk cs (0, 0) hg
    rw [heap_setCell_other b ⟨g, i, none⟩ k _ hne]
    exact h.keep k hk
  · obtain ⟨cs', h1, h2, h3⟩ := h.byt k cs2 hk
    by_cases e : k = g
    · subst e
      refine ⟨cs'.setIfInBounds i (.int .u8 z), heap_setCell_same b k i cs' 5 _ h1, by simpa using h2, fun j y hy => ?_⟩
      obtain ⟨y', hy'⟩ := h3 j y hy
      by_cases e2 : i = j
      · subst e2
        have : i < cs'.size := by
          have := (Array.getElem?_eq_some_iff.1 hy').1
          exact this
        exact ⟨z, by simp [this]⟩
      · exact ⟨y', by rw [Array.getElem?_setIfInBounds, if_neg e2]; exact hy'⟩
    · exact ⟨cs', by rw [heap_setCell_other b ⟨g, i, none⟩ k _ e]; exact h1, h2, h3⟩
theorem Mt.own {B0 B Bo n : Nat} {a b : World} (h : Mt B0 B a b) {e : TypeId} {sz : Nat} {v : Value} {xs : List Value} (ho : a.ownsRow Bo e sz v n xs) (he : e ≠ 5 ∨ B ≤ Bo) : b.ownsRow Bo e sz v n xs :=
  own_same ho (fun k hk => by
    obtain ⟨hb, cs, hc⟩ := own_blk ho k hk
    refine h.keep k ?_
    rcases he with he | he
    · exact .inr (.inr (fun cs2 fr h2 => by
        rw [hc] at h2
        simp only [Option.some.injEq, Obj.cells.injEq] at h2
        exact he h2.2.1))
    · exact .inl (by omega))
theorem Mt.below {B0 B : Nat} {w a b : World} (h : Mt B0 B a b) (hb : Below B0 w a) : Below B0 w b :=
  ⟨h.os.trans hb.os, h.tape.trans hb.tape, h.output.trans hb.output, by rw [h.size]; exact hb.size, fun k hk => (h.keep k (.inr (.inl hk))).trans (hb.block k hk)⟩
theorem mem_ins (x q : Int × List Int) : ∀ P, q ∈ insP P x → q = x ∨ q ∈ P
  | [], h => by simpa [insP] using h
  | y :: P, h => by
    rw [insP] at h
    split at h
    · rcases List.mem_cons.1 h with h | h
      · exact .inr (by simp [h])
      · rcases mem_ins x q P h with h | h
        · exact .inl h
        · exact .inr (by simp [h])
    · split at h
      · rcases List.mem_cons.1 h with h | h
        · exact .inl h
        · exact .inr (by simp [h])
      · rcases List.mem_cons.1 h with h | h
        · exact .inl h
        · exact .inr h
theorem mem_latP (L : List (Int × List Int)) (q : Int × List Int) (h : q ∈ latP L) : q ∈ L := by
  have key : ∀ (L P : List (Int × List Int)), q ∈ L.foldl insP P → q ∈ P ∨ q ∈ L := by
    intro L
    induction L with
    | nil => intro P h; exact .inl h
    | cons x L ih =>
      intro P h
      rcases ih _ h with h | h
      · rcases mem_ins x q P h with h | h
        · exact .inr (by simp [h])
        · exact .inl h
      · exact .inr (by simp [h])
  rcases key L [] h with h | h
  · simp at h
  · exact h
/-- Rows of images of a call's own. -/
structure Cim (w : World) (B : Nat) (v : Value) (C : List Sx) : Prop where
  row : w.ownsRow B 24 1 v C.length (C.map slc).flatten
  im : ∀ c ∈ C, c.M.length = c.l ∧ OImgs w B (.slice c.a c.l c.c) c.M
theorem OImgs.to2 {w w' : World} {B : Nat} {v : Value} {M : List Im} (h : OImgs w B v M) (hb : Below w.heap.size w w') : OImgs w' B v M := h.to hb
theorem Cim.to {w w' : World} {B : Nat} {v : Value} {C : List Sx} (h : Cim w B v C) (hb : Below w.heap.size w w') : Cim w' B v C := ⟨own_to h.row hb, fun c hc => ⟨(h.im c hc).1, (h.im c hc).2.to hb⟩⟩
theorem OImgs.grown2 {w w' : World} {B B' n : Nat} {e : TypeId} {sz : Nat} {v v' : Value} {xs : List Value} {M : List Im} (h : OImgs w B v' M) (hv : w.ownsRow B' e sz v n xs) (he : e ≠ 5) (he2 : e ≠ 36) (hg : w.grownBy w' v.ownBlock) : OImgs w' B v' M :=
  ⟨own_grown h.row hv he2 hg, fun m hm => (h.byt m hm).grown hv he hg⟩
theorem Cim.app {w w' : World} {B : Nat} {u u' : Value} {C : List Sx} (h : Cim w B u C) (a : Option Addr) (l c : Nat) (M : List Im) (hl : M.length = l) (hm : OImgs w B (.slice a l c) M) (ho : w'.ownsRow B 24 1 u' (C.length + 1) ((C.map slc).flatten ++ [.slice a l c])) (hg : w.grownBy w' u.ownBlock) : Cim w' B u' (C ++ [⟨a, l, c, M⟩]) := by
  refine ⟨?_, fun x hx => ?_⟩
  · rw [List.length_append, List.map_append, List.flatten_append]
    simpa [slc] using ho
  · rcases List.mem_append.1 hx with hx | hx
    · exact ⟨(h.im x hx).1, (h.im x hx).2.grown2 h.row (by decide) (by decide) hg⟩
    · simp only [List.mem_cons, List.not_mem_nil, or_false] at hx
      subst hx
      exact ⟨hl, hm.grown2 h.row (by decide) (by decide) hg⟩
theorem Cim.igss {w : World} {B c : Nat} {a : Option Addr} {C : List Sx} (h : Cim w B (.slice a C.length c) C) (hl : ∀ x ∈ C, x.l ≤ 1000) : Igss w a C := by
  refine ⟨own_tb (fun _ => rfl) h.row rfl, fun x hx => ⟨(h.im x hx).1, ?_, by have := hl x hx; unfold maxLen; omega⟩⟩
  have h1 := (h.im x hx).1
  have h2 := (h.im x hx).2
  rw [← h1] at h2
  exact h2.imgs
/-- So far. -/
structure CmK (w wr : World) (n k : Nat) (v : Value) (C : List Sx) : Prop where
  cm : Cim wr w.heap.size v C
  len : C.length = k
  few : ∀ c ∈ C, c.l ≤ 10
  byt : ∀ c ∈ C, ∀ m ∈ c.M, m.bl = 160 ∧ m.bs.length = 160
  bel : Below w.heap.size w wr
theorem allM_few : ∀ (C : List Sx), (∀ c ∈ C, c.M.length ≤ 10) → (allM C).length ≤ 10 * C.length
  | [], _ => by simp [allM]
  | c :: C, h => by
    have h1 := allM_few C (fun x hx => h x (by simp [hx]))
    have h2 := h c (by simp)
    have e : allM (c :: C) = c.M ++ allM C := by simp [allM]
    rw [e, List.length_append, List.length_cons]
    omega
theorem plC_flat (C : List Sx) : (plC C).flatten = (allM C).map pl := by
  simp [plC, allM, List.map_flatten]
  rfl
theorem replayLatest_far (a : Option Addr) (n cap : Nat) (w : World) (hT : Dig.Tabs w) (hT2 : Seal.Tab w) (hn : ¬ n ≤ 10) (hm : n ≤ 9223372036854775807) :
    Calls Tryd.prog 3 #[.slice a n cap] w fun e w' => e = .returned (.bool true) ∧ Below w.heap.size w w' := by
  have HA : Box (Calls Tryd.prog 6 #[] w fun e w' => e = .returned (.bool true) ∧ Below w.heap.size w w') := ⟨awake14_v w hT hT2⟩
  have hg : decide ((10 : Int) < (n : Int)) = true := by simp; omega
  have hg2 : (10 : Int) < (n : Int) := by omega
  clear hT hT2
  go_enter Tryd.func3, Tryd.ntmps3
  go_wp2_with (go_at_call 6; refine HA.out.mono ?_; rintro e x1 ⟨rfl, hb⟩; have H1 : Box (Below w.heap.size w x1) := ⟨hb⟩; clear hb)
  go_ret
  exact ⟨rfl, H1.out⟩
set_option maxHeartbeats 16000000 in
theorem replayLatest_core (a : Option Addr) (cap : Nat) (C0 : List Sx) (w : World) (hT : Dig.Tabs w) (hT2 : Seal.Tab w) (h : Igss w a C0) (hl : C0.length ≤ 10) :
    Calls Tryd.prog 3 #[.slice a C0.length cap] w fun e w' => e = .returned (.bool true) ∧ Below w.heap.size w w' := by
  obtain ⟨n, hn⟩ : ∃ n, C0.length = n := ⟨_, rfl⟩
  have HA : Box (Calls Tryd.prog 6 #[] w fun e w' => e = .returned (.bool true) ∧ Below w.heap.size w w') := ⟨awake14_v w hT hT2⟩
  have HT : Box (∀ x, Below w.heap.size w x → Igss x a C0) := ⟨fun x hx => h.below hx⟩
  have HN : Box (C0.length = n ∧ n ≤ 10) := ⟨hn, by omega⟩
  have hg2 : ¬ (10 : Int) < (n : Int) := by omega
  rw [hn]
  clear hT hT2 h hn hl
  go_enter Tryd.func3, Tryd.ntmps3
  go_upto_region 8 with (go_at_call 6; refine HA.out.mono ?_; rintro e x0 ⟨rfl, hb⟩; have HX0 : Box (Below w.heap.size w x0) := ⟨hb⟩; clear hb)
  clear HA
  go_loopw [4, 5] (fun v i wr => ∃ (k : Nat) (C : List Sx), k ≤ n ∧ i = .int .i64 (k : Int) ∧ Box (CmK w wr n k v C)) (fun _ i _ => n - (intOf i).toNat)
  case atStart => exact ⟨0, [], Nat.zero_le _, rfl, ⟨⟨⟨World.ownsRow_nil _ _ _ _, fun c hc => (by simp at hc)⟩, rfl, fun c hc => (by simp at hc), fun c hc => (by simp at hc), HX0.out⟩⟩⟩
  case round =>
    obtain ⟨k, C, hk, rfl, HG⟩ := hrel
    have HBW : Box (Below w.heap.size w wr) := ⟨HG.out.bel⟩
    by_cases hlt : k < n
    · have hlt1 : decide ((k : Int) < (n : Int)) = true := by simp; omega
      have hkC : k < C0.length := by rw [HN.out.1]; exact hlt
      have HK : Box (k < n ∧ n ≤ 10) := ⟨hlt, HN.out.2⟩
      have HIo := HT.out wr HG.out.bel
      obtain ⟨b, o, hae, hbl, hr⟩ := HIo.tb (by omega)
      subst hae
      have hrk := hr k hkC
      obtain ⟨hcl, hcI, hcm⟩ := HIo.im C0[k] (List.getElem_mem hkC)
      obtain ⟨⟨ca, cl, cc, CM⟩, hx⟩ : ∃ c, C0[k] = c := ⟨_, rfl⟩
      rw [hx] at hrk hcl hcI hcm
      dsimp only at hcl hcI hcm
      have c0 : wr.cell? ⟨b, o + k, none⟩ = some (.slice ca cl cc) := by have := hrk 0 _ rfl; rwa [Nat.mul_one, Nat.add_zero] at this
      unfold maxLen at hcm
      by_cases h4 : cl ≤ 10
      · have hd4 : decide ((10 : Int) < (cl : Int)) = false := by simp; omega
        have hd5 : ¬ (10 : Int) < (cl : Int) := by omega
        have HIM : Box (Calls Tryd.prog 7 #[.slice ca cl cc, .bool false] wr fun e w' => ∃ a1 c1 XI, e = .returned (.slice a1 cl c1) ∧ XI.length = cl ∧ OImgs w' wr.heap.size (.slice a1 cl c1) XI ∧ (∀ m ∈ XI, m.bl = 160 ∧ m.bs.length = 160) ∧ Below wr.heap.size wr w') := ⟨by
          have := images_any ca cc CM false wr hcI (by omega)
          rw [hcl] at this
          refine this.mono ?_
          rintro e w' ⟨v, XI, rfl, hig⟩
          have hlX : XI.length = cl := hig.len
          have hig2 : Ig wr w' false CM CM.length v XI := by rw [hcl]; exact hig
          have hB : ∀ m ∈ CM, Byt m.bs := fun m hm => (hcI.byt m hm).1.2.1
          obtain ⟨a1, c1, rfl⟩ := own_form2 hig.im.row
          have him := hig.im
          rw [hlX] at him
          exact ⟨a1, c1, XI, by rw [hlX], hlX, him, fun m hm => ⟨img_bl hig2 hB m hm, (img_ok hig2 hB (pl m) (List.mem_map_of_mem hm)).1⟩, hig.bel⟩⟩
        have HOW : Box (∀ x, Below wr.heap.size wr x → x.ownsRow w.heap.size 24 1 u4 C.length (C.map slc).flatten ∧ w.heap.size ≤ x.heap.size) := ⟨fun x hx => ⟨own_to HG.out.cm.row hx, Nat.le_trans HG.out.bel.size hx.size⟩⟩
        have HST : Box (∀ (x x' : World) (a1 : Option Addr) (c1 : Nat) (XI : List Im) (u' : Value), XI.length = cl → OImgs x wr.heap.size (.slice a1 cl c1) XI → (∀ m ∈ XI, m.bl = 160 ∧ m.bs.length = 160) → Below wr.heap.size wr x → x'.ownsRow w.heap.size 24 1 u' (C.length + 1) ((C.map slc).flatten ++ [.slice a1 cl c1]) → x.grownBy x' u4.ownBlock → ∃ C', CmK w x' n (k + 1) u' C') := ⟨fun x x' a1 c1 XI u' q1 q2 q3 q4 q5 q6 => by
          have hz := HG.out.bel.size
          have q2' : OImgs x w.heap.size (.slice a1 cl c1) XI := ⟨own_low2 q2.row hz, fun m hm => (q2.byt m hm).low hz⟩
          refine ⟨C ++ [⟨a1, cl, c1, XI⟩], (HG.out.cm.to q4).app a1 cl c1 XI q1 q2' q5 q6, by simp [HG.out.len], fun c hc => ?_, fun c hc => ?_, ?_⟩
          · rcases List.mem_append.1 hc with hc | hc
            · exact HG.out.few c hc
            · simp only [List.mem_cons, List.not_mem_nil, or_false] at hc
              rw [hc]; exact h4
          · rcases List.mem_append.1 hc with hc | hc
            · exact HG.out.byt c hc
            · simp only [List.mem_cons, List.not_mem_nil, or_false] at hc
              rw [hc]; exact q3
          · have hb := below_to HG.out.bel q4
            exact hb.grown q6 hb.size (fun j hj => (own_blk HG.out.cm.row j hj).1)⟩
        have HCL : Box (C.length ≤ 1000000) := ⟨by rw [HG.out.len]; have := HK.out; omega⟩
        have hw4 : IntKind.i64.wrap ((k : Int) + 1) = ((k + 1 : Nat) : Int) := by have := HK.out; rw [IntKind.wrap_i64]; omega
        clear hx hrk hcI HIo hr hbl h4 hcl HG
        go_wp2_with (first
          | (refine atIdx 22 ?_; refine wpList_run rfl _ _ (exec_idxT 22 24 Tryd.underlying22 1 infoSlz2 _ _ rfl b o n cap k rfl rfl HK.out.1) ?_; (try rw [Nat.mul_one]))
          | (go_at_call 7; refine HIM.out.mono ?_; rintro e x3 ⟨a3, c3, XI, rfl, q1, q2, q3, q4⟩; have H3 : Box (XI.length = cl ∧ OImgs x3 wr.heap.size (.slice a3 cl c3) XI ∧ (∀ m ∈ XI, m.bl = 160 ∧ m.bs.length = 160) ∧ Below wr.heap.size wr x3) := ⟨q1, q2, q3, q4⟩; have HO3 : Box _ := ⟨HOW.out x3 q4⟩; clear q1 q2 q3 q4)
          | (at_builtin; refine wpList_appR 22 24 Tryd.underlying22 1 24 _ infSl rfl (by decide) rfl (.tmp 27) (.tmp 33) rfl w.heap.size C.length u4 (C.map slc).flatten [.slice a3 cl c3] x3 rfl rfl rfl HO3.out.1 rfl (by simp [Value.oneCell']) HCL.out (by decide) (by decide) HO3.out.2 ?_; intro v4 x4 q1 q2; have H4 : Box (∃ C', CmK w x4 n (k + 1) v4 C') := ⟨HST.out x3 x4 a3 c3 XI v4 H3.out.1 H3.out.2.1 H3.out.2.2.1 H3.out.2.2.2 q1 q2⟩; clear q1 q2))
        go_roundw
        case rel =>
          obtain ⟨C', h4⟩ := H4.out
          exact ⟨k + 1, C', by have := HK.out; omega, by go_num, ⟨h4⟩⟩
        case measure => have := HK.out; simp [intOf]; omega
      · have hd4 : decide ((10 : Int) < (cl : Int)) = true := by simp; omega
        have hd5 : (10 : Int) < (cl : Int) := by omega
        clear hx hrk hcI HIo hr hbl hcl HG
        go_wp2_with (refine atIdx 22 ?_; refine wpList_run rfl _ _ (exec_idxT 22 24 Tryd.underlying22 1 infoSlz2 _ _ rfl b o n cap k rfl rfl HK.out.1) ?_; (try rw [Nat.mul_one]))
        go_ret
        exact ⟨rfl, HBW.out⟩
    · have hlt1 : decide ((k : Int) < (n : Int)) = false := by simp; omega
      obtain rfl : k = n := by omega
      obtain ⟨va, vc, hv⟩ := own_form2 HG.out.cm.row
      subst hv
      obtain ⟨T, hTT⟩ : ∃ T, latP ((allM C).map pl) = T := ⟨_, rfl⟩
      have hfew : (allM C).length ≤ 1000 := by
        have h1 := allM_few C (fun c hc => by rw [(HG.out.cm.im c hc).1]; exact HG.out.few c hc)
        have h2 := HG.out.len
        have h3 := HN.out.2
        omega
      have HTT : Box (latP ((allM C).map pl) = T ∧ T.length ≤ 1000 ∧ ∀ q ∈ T, q.2.length = 160) := ⟨hTT, by rw [← hTT]; have := len_latP ((allM C).map pl); simp at this; omega, fun q hq => by
        rw [← hTT] at hq
        obtain ⟨m, hm, rfl⟩ := List.mem_map.1 (mem_latP _ q hq)
        obtain ⟨l, hl1, hl2⟩ := List.mem_flatten.1 hm
        obtain ⟨c, hcm, rfl⟩ := List.mem_map.1 hl1
        exact (HG.out.byt c hcm m hl2).2⟩
      have HIG : Box (∀ x, Below wr.heap.size wr x → Igss x va C) := ⟨fun x hx => (HG.out.cm.to hx).igss (fun c hc => by have := HG.out.few c hc; omega)⟩
      have HCF : Box (C.length ≤ 1000 ∧ (∀ c ∈ C, c.l ≤ 1000) ∧ (allM C).length ≤ 1000 ∧ ∀ m ∈ allM C, m.bl < 1000000) := ⟨by rw [HG.out.len]; have := HN.out.2; omega, fun c hc => by have := HG.out.few c hc; omega, hfew, fun m hm => by
        obtain ⟨l, hl1, hl2⟩ := List.mem_flatten.1 hm
        obtain ⟨c, hcm, rfl⟩ := List.mem_map.1 hl1
        rw [(HG.out.byt c hcm m hl2).1]
        omega⟩
      have HAO : Box (Calls Tryd.prog 9 #[.slice va C.length vc] wr fun e w' => ∃ a6 c6 W6, e = .returned (.slice a6 W6.length c6) ∧ Rws w' a6 W6 ∧ W6.length ≤ 1000 ∧ allP W6 = (allM C).map pl ∧ Below wr.heap.size wr w') := ⟨by
        refine (allOf_any va vc C wr (HIG.out wr (Below.refl _ _)) HCF.out.1 HCF.out.2.1).mono ?_
        rintro e w' ⟨v, W6, rfl, hao⟩
        have hwl := hao.len (Nat.le_refl _)
        have hwn := hao.wn
        obtain ⟨a6, c6, rfl⟩ := own_form2 hwn.row
        refine ⟨a6, c6, W6, rfl, hwn.rws, by rw [hwl]; exact HCF.out.1, ?_, hao.bel⟩
        unfold allP
        rw [hao.eq, List.take_of_length_le (by simp [plC]), plC_flat]⟩
      clear hTT hfew
      go_upto_region 14 with (first
        | (go_at_call 9; refine HAO.out.mono ?_; rintro e x1 ⟨a6, c6, W6, rfl, q1, q2, q3, q4⟩; have H1 : Box (Below wr.heap.size wr x1) := ⟨q4⟩; have HRL : Box (Calls Tryd.prog 8 #[.slice a6 W6.length c6] x1 fun e w' => ∃ ta tc, e = .returned (.slice ta T.length tc) ∧ w'.ownsRow x1.heap.size 60 2 (.slice ta T.length tc) T.length (T.map ic).flatten ∧ Below x1.heap.size x1 w') := ⟨(rlatest_any a6 c6 W6 x1 q1 q2 (by rw [q3]; have := HCF.out.2.2.1; simpa using this)).mono (fun e w' h => by obtain ⟨v, rfl, hla⟩ := h; have hrow := hla.row; rw [q3, HTT.out.1] at hrow; obtain ⟨ta, tc, rfl⟩ := own_form2 hrow; exact ⟨ta, tc, rfl, hrow, hla.bel⟩)⟩; clear q1 q2 q3 q4)
        | (go_at_call 8; refine HRL.out.mono ?_; rintro e x2 ⟨ta, tc, rfl, q1, q2⟩; have H2 : Box (Below wr.heap.size wr x2 ∧ x2.ownsRow x1.heap.size 60 2 (.slice ta T.length tc) T.length (T.map ic).flatten) := ⟨below_to H1.out q2, q1⟩; clear q1 q2))
      clear HAO HRL
      have HLA : Box (∀ x, Below x2.heap.size x2 x → Calls Tryd.prog 10 #[.slice va C.length vc] x fun e w' => ∃ ya yc Y, e = .returned (.slice ya T.length yc) ∧ Y.length = T.length ∧ OImgs w' x.heap.size (.slice ya Y.length yc) Y ∧ Y.map pl = T ∧ (∀ m ∈ Y, m.bl = 160) ∧ Below x.heap.size x w') := ⟨fun x hx => by
        refine (latest_v va vc C x (HIG.out x (below_to H2.out.1 hx)) HCF.out.1 HCF.out.2.1 HCF.out.2.2.2).mono ?_
        rintro e w' ⟨v, Y, rfl, q1, q2, q3⟩
        rw [HTT.out.1] at q2
        have hlY : Y.length = T.length := by have := congrArg List.length q2; simpa using this
        obtain ⟨ya, yc, rfl⟩ := own_form2 q1.row
        refine ⟨ya, yc, Y, by rw [hlY], hlY, q1, q2, fun m hm => ?_, q3⟩
        have h1 := HTT.out.2.2 (pl m) (by rw [← q2]; exact List.mem_map_of_mem hm)
        rw [← (q1.byt m hm).byi.1.1]
        exact h1⟩
      have HSM : Box (∀ (x : World) (ma : Option Addr) (mc : Nat), Below x2.heap.size x2 x → Tb x ma 2 ic T → Calls Tryd.prog 11 #[.slice ma T.length mc, .slice ta T.length tc] x fun e w' => e = .returned (.bool true) ∧ Below x.heap.size x w') := ⟨fun x ma mc hx ht => rsame_any ma ta mc tc T x ht (own_tb (fun _ => rfl) (own_to H2.out.2 hx) rfl) HTT.out.2.1⟩
      have HMO : Box (∀ (x : World) (B ya : _) (yc : Nat) (Y : List Im), Y.length = T.length → OImgs x B (.slice ya Y.length yc) Y → Y.map pl = T → Calls Tryd.prog 12 #[.slice ya T.length yc] x fun e w' => ∃ ma mc, e = .returned (.slice ma T.length mc) ∧ Tb w' ma 2 ic T ∧ Below x.heap.size x w') := ⟨fun x B ya yc Y q1 q2 q3 => by
        have := modelOf_any ya yc Y x q2.imgs (by rw [q1]; exact HTT.out.2.1)
        rw [q1] at this
        refine this.mono ?_
        rintro e w' ⟨v, rfl, hm⟩
        have hrow := hm.row
        rw [q3, List.take_of_length_le (Nat.le_refl _)] at hrow
        obtain ⟨ma, mc, rfl⟩ := own_form2 hrow
        exact ⟨ma, mc, rfl, own_tb (fun _ => rfl) hrow rfl, hm.bel⟩⟩
      have HL2 : Box _ := ⟨HLA.out x2 (Below.refl _ _)⟩
      go_upto_region 17 with (first
        | (go_at_call 10; refine HL2.out.mono ?_; rintro e x3 ⟨ya, yc, Y, rfl, q1, q2, q3, q4, q5⟩; have H3 : Box (Y.length = T.length ∧ OImgs x3 x2.heap.size (.slice ya Y.length yc) Y ∧ (∀ m ∈ Y, m.bl = 160) ∧ Below x2.heap.size x2 x3) := ⟨q1, q2, q4, q5⟩; have HM3 : Box _ := ⟨HMO.out x3 _ ya yc Y q1 q2 q3⟩; clear q1 q2 q3 q4 q5)
        | (go_at_call 12; refine HM3.out.mono ?_; rintro e x4 ⟨ma, mc, rfl, q1, q2⟩; have H4 : Box (Below x3.heap.size x3 x4) := ⟨q2⟩; have HS4 : Box _ := ⟨HSM.out x4 ma mc (below_to H3.out.2.2.2 q2) q1⟩; clear q1 q2)
        | (go_at_call 11; refine HS4.out.mono ?_; rintro e x5 ⟨rfl, q1⟩; have H5 : Box (Below x3.heap.size x3 x5) := ⟨below_to H4.out q1⟩; clear q1))
      have HY5 : Box (Y.length = T.length ∧ OImgs x5 x2.heap.size (.slice ya Y.length yc) Y ∧ (∀ m ∈ Y, m.bl = 160) ∧ Below x2.heap.size x2 x5 ∧ T.length ≤ 1000) := ⟨H3.out.1, H3.out.2.1.to H5.out, H3.out.2.2.1, below_to H3.out.2.2.2 H5.out, HTT.out.2.1⟩
      have HMT0 : Box (Mt x2.heap.size x5.heap.size x5 x5) := ⟨Mt.refl _ _ _⟩
      clear HM3 HS4 H3 H4 H5 HL2
      go_wp2
      go_loopw [8] (fun i wq => ∃ q : Nat, q ≤ T.length ∧ i = .int .i64 (q : Int) ∧ Box (Mt x2.heap.size x5.heap.size x5 wq)) (fun i _ => T.length - (intOf i).toNat)
      case atStart => exact ⟨0, Nat.zero_le _, rfl, HMT0⟩
      case round =>
        clear HMT0
        obtain ⟨q, hq, rfl, HM⟩ := hrel
        by_cases hql : q < T.length
        · have hq1 : decide ((q : Int) < (T.length : Int)) = true := by simp; omega
          have HQL : Box (q < T.length) := ⟨hql⟩
          have hqY : q < Y.length := by rw [HY5.out.1]; exact hql
          obtain ⟨yb, yo, hye, _, hyr⟩ := own_tb (f := imc) (fun _ => rfl) (HM.out.own HY5.out.2.1.row (.inl (by decide))) rfl (by omega)
          subst hye
          have hyq := hyr q hqY
          have hom := HY5.out.2.1.byt Y[q] (List.getElem_mem hqY)
          have hb160 := HY5.out.2.2.1 Y[q] (List.getElem_mem hqY)
          obtain ⟨⟨blk, ba, bl, bc, bs⟩, hmm⟩ : ∃ m, Y[q] = m := ⟨_, rfl⟩
          rw [hmm] at hyq hom hb160
          dsimp only at hb160
          subst hb160
          have hbsl := hom.byi.1.1
          dsimp only at hbsl
          rcases hom.own.2 with ⟨_, h0⟩ | ⟨g, cp, cur, he, hgb, hgr, hg1, hg2, hg3, hg4⟩
          · exact absurd h0 (by show ¬ (160 : Nat) = 0; omega)
          dsimp only at he
          simp only [Value.slice.injEq, true_and] at he
          obtain ⟨rfl, rfl⟩ := he
          have hcur : ∃ z, cur[0]? = some (.int .u8 z) := by
            have e1 : (cur.toList.take (160 * 1))[0]? = (bs.map (Value.int .u8))[0]? := congrArg (fun l => l[0]?) hg4
            have hb0 : 0 < bs.length := by rw [hbsl]; omega
            rw [List.getElem?_take_of_lt (by omega), List.getElem?_map, List.getElem?_eq_getElem hb0] at e1
            rw [← Array.getElem?_toList]
            exact ⟨bs[0], e1⟩
          obtain ⟨z, hz⟩ := hcur
          obtain ⟨cs', hc1, hc2, hc3⟩ := HM.out.byt g cur hgr
          obtain ⟨z', hz'⟩ := hc3 0 z hz
          have c1 : wr.cell? ⟨yb, yo + q * 2 + 1, none⟩ = some (.slice (some ⟨g, 0, none⟩) 160 bc) := hyq 1 _ rfl
          have c2 : wr.cell? ⟨g, 0, none⟩ = some (.int .u8 z') := by rw [cell_of_row _ _ _ _ _ _ hc1]; exact hz'
          have f2 : wr.frozen? ⟨g, 0, none⟩ = false := frozen_of_row wr g 0 _ 5 hc1
          have hgl : g < x5.heap.size := (Array.getElem?_eq_some_iff.1 hgr).1
          have HST : Box (∀ y : Int, Mt x2.heap.size x5.heap.size x5 (wr.setCell ⟨g, 0, none⟩ (.int .u8 y))) := ⟨fun y => HM.out.set g 0 cur hgr hgb hgl y⟩
          have hw4 : IntKind.i64.wrap ((q : Int) + 1) = ((q + 1 : Nat) : Int) := by have := HY5.out.2.2.2.2; rw [IntKind.wrap_i64]; omega
          clear hyr hyq hom hmm hbsl hgb hgr hg1 hg2 hg3 hg4 hz hc1 hc2 hc3 hz' hgl
          go_wp2_with (refine atIdx 24 ?_; refine wpList_run rfl _ _ (exec_idxT 24 36 Tryd.underlying24 2 infoIm _ _ rfl yb yo T.length yc q rfl rfl HQL.out) ?_)
          go_roundw
          case rel => exact ⟨q + 1, by omega, by go_num, ⟨HST.out _⟩⟩
          case measure => simp [intOf]; omega
        · have hq1 : decide ((q : Int) < (T.length : Int)) = false := by simp; omega
          have HBx : Box (Below x2.heap.size x2 wr) := ⟨HM.out.below HY5.out.2.2.2.1⟩
          have HL3 : Box _ := ⟨HLA.out wr HBx.out⟩
          have HFI : Box (Below w.heap.size w x2) := ⟨below_to HG.out.bel H2.out.1⟩
          clear HM HG
          go_wp2_with (first
            | (go_at_call 10; refine HL3.out.mono ?_; rintro e x6 ⟨ya2, yc2, Y2, rfl, q1, q2, q3, q4, q5⟩; have H6 : Box (Below wr.heap.size wr x6) := ⟨q5⟩; have HM6 : Box _ := ⟨HMO.out x6 _ ya2 yc2 Y2 q1 q2 q3⟩; clear q1 q2 q3 q4 q5)
            | (go_at_call 12; refine HM6.out.mono ?_; rintro e x7 ⟨ma2, mc2, rfl, q1, q2⟩; have H7 : Box (Below wr.heap.size wr x7) := ⟨below_to H6.out q2⟩; have HS7 : Box _ := ⟨HSM.out x7 ma2 mc2 (below_to HBx.out (below_to H6.out q2)) q1⟩; clear q1 q2)
            | (go_at_call 11; refine HS7.out.mono ?_; rintro e x8 ⟨rfl, q1⟩; have H8 : Box (Below w.heap.size w x8) := ⟨below_to HFI.out (below_to HBx.out (below_to H7.out q1))⟩; clear q1))
          go_ret
          exact ⟨rfl, H8.out⟩
theorem replayLatest_walk (a : Option Addr) (cap : Nat) (C : List Sx) (w : World) (hT : Dig.Tabs w) (hT2 : Seal.Tab w) (h : Igss w a C) (y : C.length ≤ maxLen) :
    Calls Tryd.prog 3 #[.slice a C.length cap] w fun e w' => e = .returned (.bool true) ∧ Below w.heap.size w w' := by
  unfold maxLen at y
  by_cases h4 : C.length ≤ 10
  · exact replayLatest_core a cap C w hT hT2 h h4
  · exact replayLatest_far a C.length cap w hT hT2 h4 (by omega)
end Go.Proofs.YteaejodihmnbcaaDoor
