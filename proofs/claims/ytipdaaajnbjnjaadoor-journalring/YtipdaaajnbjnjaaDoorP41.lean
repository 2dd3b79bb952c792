/-
  JournalRing: records are written round the ring, each behind the one ahead; emptied, it goes on behind the last one.
-/
import Derived.Test.YtipdaaajnbjnjaaDoorP40
import Derived.Test.YtipdaaajnbjnjaaDoorP01
import Derived.Test.YtipdaaajnbjnjaaDoorP33
namespace Go.Proofs.YtipdaaajnbjnjaaDoor
set_option maxRecDepth 100000
set_option linter.unusedVariables false
open Go.RowKit Plain
attribute [local go_sem] Oper.semAt_some
/-- One image more, its bytes in a block that was just laid. -/
theorem OImgs.snoc {wr wk w' : World} {B : Nat} {v v' : Value} {X : List Im} (h : OImgs wr B v X) (hB : B ≤ wr.heap.size) (hb : Below wr.heap.size wr wk) (nn : Nat) (bs : List Int) (hr : wk.heap[wr.heap.size]? = some (.cells (bs.map (Value.int .u8)).toArray 5 (0, 0))) (hl : bs.length = nn) (hn : nn ≤ 1000000) (hby : Byt bs) (blk : Int) (hn6 : N64 blk)
    (ho : w'.ownsRow B 77 2 v' (X.length + 1) ((X.map imc).flatten ++ [.int .u64 blk, .slice (some ⟨wr.heap.size, 0, none⟩) nn nn])) (hg : wk.grownBy w' v.ownBlock) : OImgs w' B v' (X ++ [⟨blk, some ⟨wr.heap.size, 0, none⟩, nn, nn, bs⟩]) := by
  have hrow : wk.ownsRow B 77 2 v X.length (X.map imc).flatten := own_to h.row hb
  have hnew : OIm wk B ⟨blk, some ⟨wr.heap.size, 0, none⟩, nn, nn, bs⟩ := by
    refine ⟨own_low2 (Out.of_row (w := wr) (w' := wk) hl (by unfold maxLen; omega) (Nat.le_refl _) hr hb).2.1 hB, hby, hn6⟩
  refine ⟨?_, fun m hm => ?_⟩
  · rw [List.length_append, List.map_append, List.flatten_append]
    simpa [imc] using ho
  · rcases List.mem_append.1 hm with hm | hm
    · exact ((h.byt m hm).to hb).grown hrow (by decide) hg
    · simp only [List.mem_cons, List.not_mem_nil, or_false] at hm
      subst hm
      exact hnew.grown hrow (by decide) hg
/-- The blocks of a round. -/
def rgL (n : Nat) : List (Int × List Int) := (List.range n).map fun (x : Nat) => ((x : Int), z160)
theorem rgL_succ (n : Nat) : rgL (n + 1) = rgL n ++ [((n : Int), z160)] := by simp [rgL, List.range_succ]
theorem len_rgL (n : Nat) : (rgL n).length = n := by simp [rgL]
theorem bad_rgL (n : Nat) (h : 0 < n) : bad (rgL n) = false := by
  simp only [bad, Bool.or_eq_false_iff, List.any_eq_false, decide_eq_true_eq]
  refine ⟨?_, fun x hx => ?_⟩
  · cases n with
    | zero => omega
    | succ n => rw [rgL_succ]; simp
  · simp only [rgL, List.mem_map] at hx
    obtain ⟨y, _, rfl⟩ := hx
    simp [len_z160]
/-- The journal ahead of a round. -/
def rgJ (K : List Int) (k at' : Nat) (nx : Int) : Jt := ⟨K, 2, k, ⟨at', 0, z32⟩, nx, 1099511627776⟩
structure RgI (w0 wr : World) (J D : Nat) (K : List Int) (k i at' : Nat) : Prop where
  lt : at' < k
  ex : ∃ fp d nx, JC w0 wr J D fp (rgJ K k at' nx) d ∧ 1 ≤ nx ∧ nx ≤ 1 + 9 * (i : Int) ∧ Up d ∧ d.n = k + 2 ∧ d.ops.length ≤ 9 * i ∧ d.uw.length ≤ 9 * i ∧ d.left = 0
/-- The blocks so far. -/
structure RgL (w wr : World) (v : Value) (x : Nat) (X : List Im) : Prop where
  im : OImgs wr w.heap.size v X
  len : X.length = x
  pls : X.map pl = rgL x
  bel : Below w.heap.size w wr
theorem rg_plain (K : List Int) (hK : K.length = 32 ∧ Byt K) (k at' n i : Nat) (nx : Int) (d : Disk.Dk) (h1 : at' < k) (hk : k ≤ 9) (hn : 1 ≤ n) (hnk : n ≤ k) (hnx : 1 ≤ nx) (hnx2 : nx ≤ 1 + 9 * (i : Int)) (hi : i < 10) (hd : Up d) :
    ApU (rgJ K k at' nx) d nx ⟨at', 0, z32⟩ n (appM (rgJ K k at' nx) d (rgL n)) := by
  have ok : (rgJ K k at' nx).Ok := ⟨hK.1, hK.2, by show 1 ≤ k; omega, by show 2 + k ≤ 4096; omega, ⟨len_z32, byt_z32, by show at' ≤ _; omega, Nat.zero_le _⟩, h1, Nat.zero_le _, ⟨hnx, by show nx ≤ _; omega⟩, by show (0 : Int) ≤ 1099511627776 ∧ (1099511627776 : Int) ≤ _; decide⟩
  have := appM_up (rgJ K k at' nx) ok d (rgL n) hd (bad_rgL n (by omega)) (by rw [len_rgL]; show 0 + n ≤ k; omega) (by rw [len_rgL]; show nx + (n : Int) ≤ 1099511627776; omega)
  rw [len_rgL] at this
  exact this
theorem exec_addI {o : Oper} {ρ : Operand → Value} {w' : World} (x y : Operand) (ty : TypeId) (ho : o.op = .binOp .add 3 x y ty) (a b v : Int) (hw : IntKind.i64.wrap (a + b) = v) (hx : ρ x = .int .i64 a) (hy : ρ y = .int .i64 b) :
    (execOp ρ o).run Tryd.prog w' = .ok (.value (.int .i64 v)) w' := by
  unfold execOp
  simp [ho, hx, hy, eqGuard, binOp, Op.intArith, hw]
theorem exec_remI {o : Oper} {ρ : Operand → Value} {w' : World} (x y : Operand) (ty : TypeId) (ho : o.op = .binOp .rem 3 x y ty) (a b v : Int) (hb : b ≠ 0) (hv : a.tmod b = v) (hx : ρ x = .int .i64 a) (hy : ρ y = .int .i64 b) :
    (execOp ρ o).run Tryd.prog w' = .ok (.value (.int .i64 v)) w' := by
  unfold execOp
  simp [ho, hx, hy, eqGuard, binOp, Op.intDiv, hb, hv]
theorem exec_neI64 {o : Oper} {ρ : Operand → Value} {w' : World} (x y : Operand) (ty : TypeId) (ho : o.op = .binOp .neq 3 x y ty) (a : Int) (hx : ρ x = .int .i64 a) (hy : ρ y = .int .i64 a) :
    (execOp ρ o).run Tryd.prog w' = .ok (.value (.bool false)) w' := by
  unfold execOp
  simp [ho, hx, hy, eqGuard, binOp, Op.intCmp]
theorem pls_at (j : Jt) (k n x : Nat) (h : x < n) : (pls j k n)[x]? = some (plc j (k + x)) := by simp [pls, h]
set_option maxHeartbeats 16000000 in
theorem journalRing_core (K : List Int) (hK : K.length = 32 ∧ Byt K) (sz st : Nat) (hsz : sz < 256) (hst : st < 256) (a : Option Addr) (len cap : Nat) (L : List Int) (w : World) (hT : Dig.Tabs w) (hT2 : Seal.Tab w) (hB : Bytes w a len L) (hm : len ≤ 9223372036854775807) :
    Calls Tryd.prog 6 #[.agg (u8s K), .int .u8 (sz : Int), .int .u8 (st : Int), .slice a len cap] w fun e w' => e = .returned (.bool true) ∧ Below w.heap.size w w' := by
  obtain ⟨S, hS⟩ : ∃ S, w.heap.size = S := ⟨_, rfl⟩
  obtain ⟨AK, HAK⟩ : ∃ A, Box (u8s K = A) := ⟨_, ⟨rfl⟩⟩
  rw [HAK.out]
  obtain ⟨w1, hw1⟩ : ∃ w1, w.alloc (.cells AK 23) = w1 := ⟨_, rfl⟩
  have hb1 : Below w.heap.size w w1 := by rw [← hw1]; exact (Below.refl _ _).alloc (Nat.le_refl _) _
  have r1 : w1.heap[S]? = some (.cells AK 23 (0, 0)) := by rw [← hw1]; exact al_at hS
  have HAW : Box (Calls Tryd.prog 8 #[] w1 fun e w' => e = .returned (.bool true) ∧ Below w1.heap.size w1 w') := ⟨awake_v w1 (hT.below hb1) (hT2.below hb1)⟩
  have HX : Box (∀ x, Below w1.heap.size w1 x → x.rangeAt S 0 (K.map (Value.int .u8)) ∧ Dig.Tabs x ∧ Seal.Tab x ∧ Bytes x a len L ∧ Below w.heap.size w x) := ⟨fun x hx => ⟨fun j q hq => by
    rw [cell_of_row _ _ _ _ _ _ ((hx.block S (Array.getElem?_eq_some_iff.1 r1).1).trans r1), Nat.zero_add, ← HAK.out]
    simpa [u8s] using hq, hT.below (below_to hb1 hx), hT2.below (below_to hb1 hx), hB.below (below_to hb1 hx), below_to hb1 hx⟩⟩
  have HKI : Box ((Tryd.prog.info? 23).map (·.size) = some (K.map (Value.int .u8)).length ∧ (K.map (Value.int .u8)).toArray = AK ∧ K.length = 32 ∧ Byt K) := ⟨by rw [List.length_map, hK.1]; exact infoSum, by rw [← HAK.out]; rfl, hK⟩
  have HS : Box (w.heap.size = S) := ⟨hS⟩
  have HBL : Box (L.length = len ∧ Byt L) := ⟨hB.1, hB.2.1⟩
  obtain ⟨k, hk⟩ : ∃ k, sz % 9 + 1 = k := ⟨_, rfl⟩
  obtain ⟨at0, hat0⟩ : ∃ q, st % k = q := ⟨_, rfl⟩
  have HK9 : Box (1 ≤ k ∧ k ≤ 9 ∧ at0 < k) := ⟨by omega, by omega, by rw [← hat0]; exact Nat.mod_lt _ (by omega)⟩
  have hwk : IntKind.i64.wrap ((sz : Int) % 9 + 1) = (k : Int) := by rw [IntKind.wrap_i64]; omega
  have hwk2 : IntKind.i64.wrap ((k : Int) + 2) = ((k + 2 : Nat) : Int) := by rw [IntKind.wrap_i64]; have := HK9.out; omega
  have hwa : (st : Int).tmod (k : Int) = (at0 : Int) := by rw [← hat0]; rfl
  have hwa2 : (st : Int) % (k : Int) = (at0 : Int) := by rw [← hat0]; rfl
  have hne : (k : Int) ≠ 0 := by have := HK9.out; omega
  have hwu : IntKind.u64.wrap (at0 : Int) = (at0 : Int) := by rw [IntKind.wrap_u64]; have := HK9.out; omega
  clear hT hT2 hB hK hb1 r1 hS hk hat0
  go_enter Tryd.func6, Tryd.ntmps6
  go_upto_region 1 with fail
  (try simp only [HS.out])
  clear hw1
  go_upto_region 4 with (go_at_call 8; refine HAW.out.mono ?_; rintro e x1 ⟨rfl, hb⟩; have H1 : Box (Below w1.heap.size w1 x1) := ⟨hb⟩; clear hb)
  clear HAW
  go_upto_region 5 with fail
  obtain ⟨D, hD⟩ : ∃ D, x1.heap.size + 1 = D := ⟨_, rfl⟩
  have HD : Box (Calls Tryd.prog 9 #[.int .i64 ((k + 2 : Nat) : Int)] x1 fun e w' => e = .returned (.tuple #[.pointer (some ⟨D, 0, none⟩), .int .i64 0]) ∧ ∃ fp, Disk.Cx x1 w' D fp (Disk.dk0 (k + 2))) := ⟨by have := Disk.new_cx x1 (k + 2) ⟨by omega, by have := HK9.out; omega⟩; rw [hD] at this; exact this⟩
  clear hD
  obtain ⟨d0, hd0⟩ : ∃ d0, Disk.dk0 (k + 2) = d0 := ⟨_, rfl⟩
  rw [hd0] at HD
  have HD0 : Box (Up d0 ∧ d0.n = k + 2 ∧ d0.ops.length = 0 ∧ d0.uw.length = 0 ∧ d0.left = 0) := ⟨by rw [← hd0]; exact ⟨⟨rfl, rfl⟩, rfl, rfl, rfl, rfl⟩⟩
  clear hd0
  have HDD : Box (∀ y : Int, y = ((k + 2 : Nat) : Int) → Calls Tryd.prog 9 #[.int .i64 y] x1 fun e w' => e = .returned (.tuple #[.pointer (some ⟨D, 0, none⟩), .int .i64 0]) ∧ ∃ fp, Disk.Cx x1 w' D fp d0) := ⟨fun y hy => by rw [hy]; exact HD.out⟩
  go_upto_region 6 with (go_at_call 9; refine (HDD.out _ (by first | rfl | omega)).mono ?_; rintro e x2 ⟨rfl, fp2, hc⟩; have H2 : Box (Disk.Cx x1 x2 D fp2 d0) := ⟨hc⟩; clear hc)
  clear HD HDD
  go_upto_region 7 with fail
  obtain ⟨SZ, HSZ⟩ : ∃ A, Box (sa ⟨at0, 0, z32⟩ = A) := ⟨_, ⟨rfl⟩⟩
  have HJN : Box (Calls Tryd.prog 11 #[.pointer (some ⟨D, 0, none⟩), .agg AK, .int .i64 2, .int .i64 (k : Int), .agg SZ, .int .u64 1, .int .u64 1099511627776] x2 fun e w' => ∃ J, e = .returned (.tuple #[.pointer (some ⟨J, 0, none⟩), .int .i64 0]) ∧ JC x1 w' J D fp2 (rgJ K k at0 1) d0) := ⟨by
    have hx := HX.out x1 H1.out
    have := jnew_ok H2.out K HKI.out.2.2 2 k (by have := HK9.out; omega) (by rw [HD0.out.2.1]; omega) (by rw [HD0.out.2.1]; have := HK9.out; omega) ⟨at0, 0, z32⟩ ⟨len_z32, byt_z32, by have := HK9.out; show at0 ≤ _; omega, Nat.zero_le _⟩ (by have := HK9.out; simp [may]; omega) 1 1099511627776 ⟨by omega, by omega⟩ ⟨by omega, by omega⟩ hx.2.1 hx.2.2.1
    rw [HAK.out, HSZ.out] at this
    exact this.mono fun e w' ⟨J, h1, h2, _⟩ => ⟨J, h1, h2⟩⟩
  have HRG : Box (x2.rangeAt S 0 (K.map (Value.int .u8))) := ⟨(HX.out x2 (below_to H1.out H2.out.bel)).1⟩
  go_upto_region 10 with (first
    | (refine atLoad 23 ?_; refine wpList_ldMid rfl 23 _ _ rfl Tryd.underlying23 rfl S 0 rfl (K.map (Value.int .u8)) HKI.out.1 HRG.out ?_; rw [HKI.out.2.1])
    | (refine atBuild 26 ?_; refine wpList_run rfl _ _ (exec_built 26 [(0, .tmp 47)] rfl [(0, .int .u64 (at0 : Int))] rfl SZ (by rw [← HSZ.out]; exact built_St1 at0)) ?_)
    | (go_at_call 11; refine HJN.out.mono ?_; rintro e x3 ⟨J, rfl, hc⟩; have H3 : Box (JC x1 x3 J D fp2 (rgJ K k at0 1) d0) := ⟨hc⟩; clear hc))
  clear HJN HRG
  have HST : Box (RgI x1 x3 J D K k 0 at0) := ⟨⟨HK9.out.2.2, fp2, d0, 1, H3.out, by omega, by omega, HD0.out.1, HD0.out.2.1, by rw [HD0.out.2.2.1]; omega, by rw [HD0.out.2.2.2.1]; omega, HD0.out.2.2.2.2⟩⟩
  have HBY : Box (∀ x, Below x1.heap.size x1 x → Bytes x a len L ∧ Below w.heap.size w x) := ⟨fun x hx => ⟨(HX.out x1 H1.out).2.2.2.1.below hx, below_to (HX.out x1 H1.out).2.2.2.2 hx⟩⟩
  have hlm := hm
  clear HX H1 H2 H3 HD0 HS HAK hwk hwk2 hwa hwa2 hwu HSZ hsz hst
  go_wp2
  go_loopw [13, 16] (fun at_ i wr => ∃ (i' at' : Nat), i' ≤ len ∧ i' ≤ 10 ∧ i = .int .i64 (i' : Int) ∧ at_ = .int .i64 (at' : Int) ∧ Box (RgI x1 wr J D K k i' at')) (fun _ i _ => 10 - (intOf i).toNat)
  case atStart => exact ⟨0, at0, Nat.zero_le _, Nat.zero_le _, rfl, rfl, HST⟩
  case round =>
    clear HST
    obtain ⟨i, at', hil, hi10, rfl, rfl, HI⟩ := hrel
    obtain ⟨wo, rfl⟩ : ∃ wo, wo = wr := ⟨_, rfl⟩
    obtain ⟨fp, d, nx, C, hnx1, hnx2, hup, hdn, hdo, hdu, hdl⟩ := HI.out.ex
    have HC : Box (JC x1 wo J D fp (rgJ K k at' nx) d ∧ 1 ≤ nx ∧ nx ≤ 1 + 9 * (i : Int) ∧ Up d ∧ d.n = k + 2 ∧ d.ops.length ≤ 9 * i ∧ d.uw.length ≤ 9 * i ∧ d.left = 0 ∧ at' < k) := ⟨C, hnx1, hnx2, hup, hdn, hdo, hdu, hdl, HI.out.lt⟩
    clear C hnx1 hnx2 hup hdn hdo hdu hdl HI
    have HFI : Box (Below w.heap.size w wo) := ⟨(HBY.out wo HC.out.1.cx.bel).2⟩
    by_cases hl1 : i < len
    · by_cases hl2 : i < 10
      · have hd1 : decide ((i : Int) < (len : Int)) = true := by simp; omega
        have hd1n : decide (i < len) = true := by simp; omega
        have hd2 : decide ((i : Int) < 10) = true := by simp; omega
        have HLT : Box (i < len ∧ i < 10) := ⟨hl1, hl2⟩
        obtain ⟨bb, oo, rfl, _, hcl⟩ := (HBY.out wo HC.out.1.cx.bel).1.2.2 (by omega)
        have hcb := hcl i hl1
        have hzb := HBL.out.2 i
        obtain ⟨z, hz⟩ : ∃ z : Nat, L.getD i 0 = (z : Int) := ⟨(L.getD i 0).toNat, by omega⟩
        rw [hz] at hcb hzb
        obtain ⟨q, hq⟩ : ∃ q, z % k = q := ⟨_, rfl⟩
        obtain ⟨n, hn⟩ : ∃ n, q + 1 = n := ⟨_, rfl⟩
        have HN : Box (1 ≤ n ∧ n ≤ k ∧ n ≤ 9) := ⟨by omega, by have := Nat.mod_lt z (show k > 0 by have := HK9.out; omega); omega, by have := Nat.mod_lt z (show k > 0 by have := HK9.out; omega); have := HK9.out; omega⟩
        have hwq : (z : Int).tmod (k : Int) = (q : Int) := by rw [← hq]; rfl
        have hwq2 : (z : Int) % (k : Int) = (q : Int) := by rw [← hq]; rfl
        have hwn : IntKind.i64.wrap ((q : Int) + 1) = (n : Int) := by rw [IntKind.wrap_i64]; have := HN.out; omega
        clear hcl hz hq hn hl2 hi10 hil
        go_upto_region 14 with fail
        clear hcb hwq hwq2 hwn hd1 hd1n hd2 hzb hl1
        obtain ⟨i0, hi0, hz0, hz1, hz2⟩ := info_parts info5
        go_upto_region 15 with fail
        go_wp2
        go_loopw [18, 19] (fun v x wr => ∃ (x' : Nat) (X : List Im), x' ≤ n ∧ x = .int .i64 (x' : Int) ∧ Box (RgL wo wr v x' X)) (fun _ x _ => n - (intOf x).toNat)
        case atStart => exact ⟨0, [], Nat.zero_le _, rfl, ⟨⟨World.ownsRow_nil _ _ _ _, fun m hm => by simp at hm⟩, rfl, rfl, Below.refl _ _⟩⟩
        case round =>
          obtain ⟨x, X, hxn, rfl, HG⟩ := hrel
          by_cases hlt : x < n
          · have hd1 : decide (x < n) = true := by simpa using hlt
            have HLT : Box (x < n ∧ x ≤ 1000000) := ⟨hlt, by have := HN.out; omega⟩
            have hwx : IntKind.u64.wrap (x : Int) = (x : Int) := by rw [IntKind.wrap_u64]; have := HN.out; omega
            have hw4 : IntKind.i64.wrap ((x : Int) + 1) = ((x + 1 : Nat) : Int) := by rw [IntKind.wrap_i64]; have := HN.out; omega
            obtain ⟨g, hg⟩ : ∃ g, wr.heap.size = g := ⟨_, rfl⟩
            obtain ⟨y1, hy1⟩ : ∃ y, wr.alloc (.cells (u8s z160) 5) = y := ⟨_, rfl⟩
            have hr4 : y1.heap[g]? = some (.cells (u8s z160) 5 (0, 0)) := by rw [← hy1]; exact al_at hg
            have hb4 : Below wr.heap.size wr y1 := by rw [← hy1]; exact (Below.refl _ _).alloc (Nat.le_refl _) _
            have HOW : Box (y1.ownsRow wo.heap.size 77 2 u18 x (X.map imc).flatten ∧ wo.heap.size ≤ y1.heap.size) := ⟨by have := own_to HG.out.im.row hb4; rwa [HG.out.len] at this, Nat.le_trans HG.out.bel.size hb4.size⟩
            have HSN : Box (∀ (w' : World) (v' : Value), w'.ownsRow wo.heap.size 77 2 v' (x + 1) ((X.map imc).flatten ++ [.int .u64 (x : Int), .slice (some ⟨g, 0, none⟩) 160 160]) → y1.grownBy w' u18.ownBlock → ∃ X', RgL wo w' v' (x + 1) X') := ⟨fun w' v' h1 h2 => by
              have hlen := HG.out.len
              refine ⟨X ++ [⟨(x : Int), some ⟨wr.heap.size, 0, none⟩, 160, 160, z160⟩], ?_, by simp [hlen], ?_, ?_⟩
              · exact HG.out.im.snoc HG.out.bel.size hb4 160 z160 (by rw [hg]; exact hr4) len_z160 (by omega) byt_z160 (x : Int) ⟨by omega, by have := HN.out; omega⟩ (by rw [hlen, hg]; exact h1) h2
              · rw [List.map_append, HG.out.pls, rgL_succ]; rfl
              · exact (below_to HG.out.bel hb4).grown h2 (below_to HG.out.bel hb4).size (fun q hq => (own_blk (own_to HG.out.im.row hb4) q hq).1)⟩
            clear HG hlt hxn hr4 hb4
            go_wp2_with (first
              | (at_make; refine wpList_run rfl _ _ (exec_make160 _ _ rfl rfl rfl) ?_; (try simp only [hg, hy1]))
              | (refine atBuild 77 ?_; refine wpList_run rfl _ _ (exec_built 77 [(0, .tmp 79), (1, .tmp 80)] rfl [(0, .int .u64 (x : Int)), (1, .slice (some ⟨g, 0, none⟩) 160 160)] rfl _ (built_Im _ _ _ _)) ?_)
              | (at_builtin; refine wpList_appR 50 77 Tryd.underlying50 2 32 _ infIm rfl (by decide) rfl (.tmp 77) (.tmp 82) rfl wo.heap.size x u18 (X.map imc).flatten [.int .u64 (x : Int), .slice (some ⟨g, 0, none⟩) 160 160] y1 rfl rfl rfl HOW.out.1 rfl (by simp [Value.oneCell']) HLT.out.2 (by decide) (by decide) HOW.out.2 ?_; intro v3 y3 hown hgr; have H3 : Box (∃ X', RgL wo y3 v3 (x + 1) X') := ⟨HSN.out y3 v3 hown hgr⟩; clear hown hgr))
            obtain ⟨X', hX'⟩ := H3.out
            exact ⟨⟨x + 1, X', HLT.out.1, by go_num, ⟨hX'⟩⟩, by simp [intOf]; have := HLT.out.1; omega⟩
          · obtain rfl : n = x := by omega
            have hd1 : decide (n < n) = false := by simp
            clear hlt hxn
            have hrow := HG.out.im.row
            rw [HG.out.len] at hrow
            obtain ⟨xa, xc, rfl⟩ := own_form2 hrow
            clear hrow
            have HIM : Box (∀ x, Below wr.heap.size wr x → Imgs x xa X) := ⟨fun x hx => by
              have h1 := HG.out.im
              have h2 := HG.out.len
              rw [← h2] at h1
              exact h1.imgs.below hx⟩
            have HCW : Box (JC x1 wr J D fp (rgJ K k at' nx) d ∧ d.ops.length < 1000 ∧ d.uw.length < 1000 ∧ d.left = 0) := ⟨HC.out.1.below HG.out.bel, by have := HC.out; have := HLT.out; omega, by have := HC.out; have := HLT.out; omega, HC.out.2.2.2.2.2.2.2.1⟩
            obtain ⟨y, hy⟩ : ∃ y, appM (rgJ K k at' nx) d (rgL n) = y := ⟨_, rfl⟩
            have hap := rg_plain K HKI.out.2.2 k at' n i nx d HC.out.2.2.2.2.2.2.2.2 HK9.out.2.1 HN.out.1 HN.out.2.1 HC.out.2.1 HC.out.2.2.1 HLT.out.2 HC.out.2.2.2.1
            rw [hy] at hap
            obtain ⟨d', nx', er, s⟩ := y
            have her : er = 0 := hap.er
            subst her
            have HAP : Box (ApU (rgJ K k at' nx) d nx ⟨at', 0, z32⟩ n (d', nx', 0, s)) := ⟨hap⟩
            obtain ⟨p, hp⟩ : ∃ p, d.ops.length = p := ⟨_, rfl⟩
            have HSS : Box (OkS s ∧ s.start = at' ∧ s.count = n ∧ d'.ops.length = p + n ∧ nx' = nx + (n : Int) ∧ Up d' ∧ d'.n = k + 2 ∧ d'.uw.length = d.uw.length + n ∧ d'.left = 0 ∧ d.ops.length = p ∧ (∀ x, x < n → d'.ops[p + x]? = some (2, ((2 + (at' + x) % k : Nat) : Int)))) := ⟨by
              have hc := HC.out
              have hk := HK9.out
              refine ⟨hap.okS (by show at' ≤ _; omega) (by show 0 + n ≤ _; have := HN.out; omega), hap.st, by have := hap.ct; simp only [Nat.zero_add] at this; exact this, by rw [show d'.ops = _ from hap.ops, List.length_append, List.length_map, hp]; simp [pls], hap.nx, hap.up, by rw [show d'.n = _ from hap.nn]; exact hc.2.2.2.2.1, ?_, by rw [show d'.left = _ from hap.left]; exact hc.2.2.2.2.2.2.2.1, hp, fun x hx => ?_⟩
              · obtain ⟨W, hW1, hW2⟩ := hap.uw
                have h3 := congrArg List.length hW2
                rw [List.length_map] at h3
                simp only [pls, List.length_map, List.length_range] at h3
                rw [show d'.uw = _ from hW1, List.length_append, h3]
              · rw [show d'.ops = _ from hap.ops, List.getElem?_append_right (by omega), hp, Nat.add_sub_cancel_left, List.getElem?_map, pls_at _ _ _ _ hx]
                rfl⟩
            have HEY : Box (appM (rgJ K k at' nx) d (X.map pl) = (d', nx', 0, s)) := ⟨by rw [HG.out.pls]; exact hy⟩
            have HXL : Box (X.length = n ∧ ∀ m ∈ X, m.bl ≤ 100000) := ⟨HG.out.len, fun m hm => by
              have h1 : pl m ∈ rgL n := by rw [← HG.out.pls]; exact List.mem_map_of_mem hm
              simp only [rgL, List.mem_map] at h1
              obtain ⟨x, _, hx⟩ := h1
              have h2 := (HG.out.im.byt m hm).byi.1.1
              have h3 := congrArg Prod.snd hx
              simp only [pl] at h3
              rw [← h3, len_z160] at h2
              omega⟩
            have HCB : Box (nx + (n : Int) ≤ 1 + 9 * ((i : Int) + 1) ∧ 1 ≤ nx ∧ d.ops.length ≤ 9 * i ∧ d.uw.length ≤ 9 * i) := ⟨by have := HC.out; have := HN.out; omega, HC.out.2.1, HC.out.2.2.2.2.2.1, HC.out.2.2.2.2.2.2.1⟩
            clear HG hap hy hp HC
            have HOP : Box (Calls Tryd.prog 27 #[.pointer (some ⟨D, 0, none⟩)] wr fun e w' => ∃ oa oc, e = .returned (.slice oa p oc) ∧ Below wr.heap.size wr w') := ⟨by
              refine (Disk.ops_cx HCW.out.1.cx (by have := HCW.out; omega)).mono ?_
              rintro e w' ⟨v', rfl, ho, hb, _⟩
              obtain ⟨oa, oc, rfl⟩ := own_form2 ho
              exact ⟨oa, oc, by rw [HSS.out.2.2.2.2.2.2.2.2.2.1], hb⟩⟩
            go_upto_region 20 with (go_at_call 27; refine HOP.out.mono ?_; rintro e x5 ⟨oa, oc, rfl, hb⟩; have H5 : Box (Below wr.heap.size wr x5) := ⟨hb⟩; clear hb)
            have HAPP : Box (Calls Tryd.prog 22 #[.pointer (some ⟨J, 0, none⟩), .slice xa n xc] x5 fun e w' => ∃ fp', e = .returned (.tuple #[.agg (sa s), .int .i64 0]) ∧ JC x1 w' J D fp' { rgJ K k at' nx with nx := nx' } d') := ⟨by
              have := append_v (HCW.out.1.below H5.out) xa xc X (HIM.out x5 H5.out) (by rw [HXL.out.1]; have := HN.out; omega) HXL.out.2 (by rw [HCW.out.2.2.2]; decide) (by have := HCW.out; omega) (by have := HCW.out; omega)
              rw [HXL.out.1, HEY.out] at this
              exact this.mono fun e w' ⟨fp', h1, h2, _⟩ => ⟨fp', h1, h2⟩⟩
            have HIS : Box ((Tryd.prog.info? 26).map (·.size) = some (sa s).size ∧ (sa zs).size = (sa s).size ∧ (Tryd.prog.info? 26).map (·.size) = some (scs s).length ∧ (scs s).toArray = sa s) := ⟨by rw [size_sa HSS.out.1]; exact infoSt, by rw [size_sa HSS.out.1, size_sa okS_zs], by rw [len_scs HSS.out.1]; exact infoSt, rfl⟩
            go_upto_region 21 with (first
              | (go_at_call 22; refine HAPP.out.mono ?_; rintro e x6 ⟨fp6, rfl, hc⟩; have H6 : Box (JC x1 x6 J D fp6 { rgJ K k at' nx with nx := nx' } d') := ⟨hc⟩; clear hc)
              | (refine atAlloc _ ?_; refine wpList_run rfl _ _ (exec_alloc 26 rfl _ zeroSt) ?_)
              | (refine atStore _ ?_; refine wpList_newRow x6 (sa zs) (sa s) HIS.out.1 HIS.out.2.1 (all_sa s) rfl _ _ rfl rfl rfl rfl ?_; intro x7 h7 hb7; have H7 : Box (x7.heap[x6.heap.size]? = some (.cells (sa s) 26 (0, 0)) ∧ Below x6.heap.size x6 x7) := ⟨h7, hb7⟩; clear h7 hb7))
            clear HAPP HOP HIM HEY HXL HAP
            obtain ⟨S6, hS6⟩ : ∃ S6, x6.heap.size = S6 := ⟨_, rfl⟩
            (try simp only [hS6])
            have H7a : Box (JC x1 x7 J D fp6 { rgJ K k at' nx with nx := nx' } d' ∧ x7.heap[S6]? = some (.cells (sa s) 26 (0, 0)) ∧ ¬ fp6 S6 ∧ S6 ≠ J) := ⟨H6.out.below H7.out.2, by rw [← hS6]; exact H7.out.1, fun h => by have := H6.out.cx.hi S6 h; omega, fun e => by have := H6.out.lt; omega⟩
            clear hS6 H7 H6 H5
            have HOP : Box (Calls Tryd.prog 27 #[.pointer (some ⟨D, 0, none⟩)] x7 fun e w' => ∃ b oo2 oc2, e = .returned (.slice (some ⟨b, oo2, none⟩) (p + n) oc2) ∧ Below x7.heap.size x7 w' ∧ b < w'.heap.size ∧ ∀ x, x < n → w'.rangeAt b (oo2 + (p + x) * 2) [.int .i64 2, .int .i64 ((2 + (at' + x) % k : Nat) : Int)]) := ⟨by
              refine (Disk.ops_cx H7a.out.1.cx (by have := HSS.out; have := HCW.out; have := HN.out; omega)).mono ?_
              rintro e w' ⟨v', rfl, ho, hb, _⟩
              have hol := HSS.out.2.2.2.1
              rw [hol] at ho
              obtain ⟨oa2, oc2, rfl⟩ := own_form2 ho
              have htb := own_tb (f := Disk.oc) (fun _ => rfl) ho hol
              obtain ⟨b, oo2, rfl, hlt, hr⟩ := htb (by have := HN.out; omega)
              refine ⟨b, oo2, oc2, rfl, hb, hlt, fun x hx => ?_⟩
              have h1 := hr (p + x) (by omega)
              have h2 := HSS.out.2.2.2.2.2.2.2.2.2.2 x hx
              have h3 : d'.ops[p + x]'(by omega) = (2, ((2 + (at' + x) % k : Nat) : Int)) := by
                rw [List.getElem?_eq_getElem (by omega)] at h2
                exact Option.some.inj h2
              rw [h3] at h1
              exact h1⟩
            go_upto_region 22 with (go_at_call 27; refine HOP.out.mono ?_; rintro e x8 ⟨ob, oo2, oc2, rfl, hb, hbl, hr⟩; have H8 : Box (Below x7.heap.size x7 x8 ∧ ob < x8.heap.size ∧ ∀ x, x < n → x8.rangeAt ob (oo2 + (p + x) * 2) [.int .i64 2, .int .i64 ((2 + (at' + x) % k : Nat) : Int)]) := ⟨hb, hbl, hr⟩; clear hb hbl hr)
            have H8a : Box (JC x1 x8 J D fp6 { rgJ K k at' nx with nx := nx' } d' ∧ x8.heap[S6]? = some (.cells (sa s) 26 (0, 0))) := ⟨H7a.out.1.below H8.out.1, (H8.out.1.block S6 (Array.getElem?_eq_some_iff.1 H7a.out.2.1).1).trans H7a.out.2.1⟩
            have c0 : x8.cell? ⟨S6, 0, none⟩ = some (.int .u64 (at' : Int)) := by
              rw [cell_of_row _ _ _ _ _ _ H8a.out.2]
              have := HSS.out.2.1
              simp [sa, scs, this]
            have c1 : x8.cell? ⟨S6, 1, none⟩ = some (.int .u64 (n : Int)) := by
              rw [cell_of_row _ _ _ _ _ _ H8a.out.2]
              have := HSS.out.2.2.1
              simp [sa, scs, this]
            have hwu1 : IntKind.u64.wrap (at' : Int) = (at' : Int) := by rw [IntKind.wrap_u64]; have := HSS.out.1.s64; have := HSS.out.2.1; omega
            have hwu2 : IntKind.u64.wrap (n : Int) = (n : Int) := by rw [IntKind.wrap_u64]; have := HN.out; omega
            have hwpn : IntKind.i64.wrap ((p : Int) + (n : Int)) = ((p + n : Nat) : Int) := by rw [IntKind.wrap_i64]; have := HSS.out; have := HCW.out; have := HN.out; omega
            have HPB : Box (p < 1000 ∧ at' < 9) := ⟨by have := HSS.out; have := HCW.out; omega, by have := HCW.out.1.ok.sl; have h2 : at' < k := this; have := HK9.out; omega⟩
            clear HOP
            go_upto_region 24 with fail
            clear c0 c1 hwpn
            have HRX : Box (∀ x z, x < n → Below x8.heap.size x8 z → z.cell? ⟨ob, oo2 + (p + x) * 2, none⟩ = some (.int .i64 2) ∧ z.cell? ⟨ob, oo2 + (p + x) * 2 + 1, none⟩ = some (.int .i64 ((2 + (at' + x) % k : Nat) : Int))) := ⟨fun x z hx hz => ⟨(hz.cell H8.out.2.1).trans (H8.out.2.2 x hx 0 _ rfl), (hz.cell H8.out.2.1).trans (H8.out.2.2 x hx 1 _ rfl)⟩⟩
            go_wp2
            go_loopw [24] (fun x wr => ∃ x' : Nat, x' ≤ n ∧ x = .int .i64 (x' : Int) ∧ Box (Below x8.heap.size x8 wr)) (fun x _ => n - (intOf x).toNat)
            case atStart => exact ⟨0, Nat.zero_le _, rfl, ⟨Below.refl _ _⟩⟩
            case round =>
              obtain ⟨x, hxn, rfl, HG⟩ := hrel
              by_cases hlt : x < n
              · have hd1 : decide (x < n) = true := by simpa using hlt
                have HLX : Box (x < n ∧ p + x < p + n) := ⟨hlt, by omega⟩
                obtain ⟨q, hq⟩ : ∃ q, (at' + x) % k = q := ⟨_, rfl⟩
                have HQ : Box (IntKind.i64.wrap ((p : Int) + (x : Int)) = ((p + x : Nat) : Int) ∧ IntKind.i64.wrap ((at' : Int) + (x : Int)) = ((at' + x : Nat) : Int) ∧ ((at' + x : Nat) : Int).tmod (k : Int) = (q : Int) ∧ IntKind.i64.wrap (2 + (q : Int)) = ((2 + q : Nat) : Int) ∧ (k : Int) ≠ 0) := ⟨by have := HPB.out; have := HN.out; rw [IntKind.wrap_i64]; omega, by have := HPB.out; have := HN.out; rw [IntKind.wrap_i64]; omega, by rw [← hq]; rfl, by have := Nat.mod_lt (at' + x) (show k > 0 by have := HK9.out; omega); have := HK9.out; rw [IntKind.wrap_i64]; omega, hne⟩
                have HRC : Box (∀ z, Below x8.heap.size x8 z → z.cell? ⟨ob, oo2 + (p + x) * 2, none⟩ = some (.int .i64 2) ∧ z.cell? ⟨ob, oo2 + (p + x) * 2 + 1, none⟩ = some (.int .i64 ((2 + q : Nat) : Int))) := ⟨fun z hz => by have := HRX.out x z hlt hz; rw [hq] at this; exact this⟩
                have hw4 : IntKind.i64.wrap ((x : Int) + 1) = ((x + 1 : Nat) : Int) := by rw [IntKind.wrap_i64]; have := HN.out; omega
                clear hq hlt hxn
                go_upto_region 27 with fail
                refine begin_keep (S := fun x => Below x8.heap.size x8 x) (by kernel_rfl) (fun wd hwd => ?_)
                have hS : Below x8.heap.size x8 wd := below_to HG.out (by rw [hwd]; exact (Below.refl _ _).drew)
                clear hwd
                refine take_s (i := 0) (v := ?_) rfl (by kernel_rfl) (by kernel_rfl) (by kernel_rfl) (fun _ _ _ h => h) (by rfl) ?_ hS ?_
                rotate_left
                · intro w' hLat; clear hLat; go_simp <;> with_reducible rfl
                try simp only [Act.put, List.setIfInBounds_toArray, List.set_cons_zero, List.set_cons_succ, List.getElem_toArray, List.getElem_cons_zero]
                refine take_s (i := 1) (v := ?_) rfl (by kernel_rfl) (by kernel_rfl) (by kernel_rfl) (fun _ _ _ h => h) (by rfl) ?_ hS ?_
                rotate_left
                · intro w' hLat; clear hLat; go_simp <;> with_reducible rfl
                try simp only [Act.put, List.setIfInBounds_toArray, List.set_cons_zero, List.set_cons_succ, List.getElem_toArray, List.getElem_cons_zero, List.getElem_cons_succ]
                refine take_s (i := 2) (v := ?_) rfl (by kernel_rfl) (by kernel_rfl) (by kernel_rfl) (fun _ _ _ h => h) (by rfl) ?_ hS ?_
                rotate_left
                · intro w' hLat; clear hLat; go_simp <;> with_reducible rfl
                try simp only [Act.put, List.setIfInBounds_toArray, List.set_cons_zero, List.set_cons_succ, List.getElem_toArray, List.getElem_cons_zero, List.getElem_cons_succ]
                refine take_s (i := 3) (v := .int .i64 ((p + x : Nat) : Int)) rfl (by kernel_rfl) (by kernel_rfl) (by kernel_rfl) (fun _ _ _ h => h) (by rfl) (fun w' hLat => exec_addI _ _ _ rfl _ _ _ HQ.out.1 rfl rfl) hS ?_
                try simp only [Act.put, List.setIfInBounds_toArray, List.set_cons_zero, List.set_cons_succ, List.getElem_toArray, List.getElem_cons_zero, List.getElem_cons_succ]
                refine take_s (i := 4) (v := .pointer (some ⟨ob, oo2 + (p + x) * 2, none⟩)) rfl (by kernel_rfl) (by kernel_rfl) (by kernel_rfl) (fun _ _ _ h => h) (by rfl) (fun w' hLat => exec_idxT 78 81 Tryd.underlying78 2 (by kernel_rfl) _ _ rfl ob oo2 (p + n) oc2 (p + x) rfl rfl HLX.out.2) hS ?_
                try simp only [Act.put, List.setIfInBounds_toArray, List.set_cons_zero, List.set_cons_succ, List.getElem_toArray, List.getElem_cons_zero, List.getElem_cons_succ]
                refine take_s (i := 5) (v := ?_) rfl (by kernel_rfl) (by kernel_rfl) (by kernel_rfl) (fun _ _ _ h => h) (by rfl) ?_ hS ?_
                rotate_left
                · intro w' hLat; clear hLat; go_simp <;> with_reducible rfl
                try simp only [Act.put, List.setIfInBounds_toArray, List.set_cons_zero, List.set_cons_succ, List.getElem_toArray, List.getElem_cons_zero, List.getElem_cons_succ]
                refine take_s (i := 6) (v := .int .i64 2) rfl (by kernel_rfl) (by kernel_rfl) (by kernel_rfl) (fun _ _ _ h => h) (by rfl) (fun w' hLat => exec_load1 3 _ _ rfl Tryd.underlying3 rfl _ rfl _ (HRC.out w' hLat).1) hS ?_
                try simp only [Act.put, List.setIfInBounds_toArray, List.set_cons_zero, List.set_cons_succ, List.getElem_toArray, List.getElem_cons_zero, List.getElem_cons_succ]
                refine take_s (i := 7) (v := ?_) rfl (by kernel_rfl) (by kernel_rfl) (by kernel_rfl) (fun _ _ _ h => h) (by rfl) ?_ hS ?_
                rotate_left
                · intro w' hLat; clear hLat; go_simp <;> with_reducible rfl
                try simp only [Act.put, List.setIfInBounds_toArray, List.set_cons_zero, List.set_cons_succ, List.getElem_toArray, List.getElem_cons_zero, List.getElem_cons_succ]
                refine take_s (i := 8) (v := ?_) rfl (by kernel_rfl) (by kernel_rfl) (by kernel_rfl) (fun _ _ _ h => h) (by rfl) ?_ hS ?_
                rotate_left
                · intro w' hLat; clear hLat; go_simp <;> with_reducible rfl
                try simp only [Act.put, List.setIfInBounds_toArray, List.set_cons_zero, List.set_cons_succ, List.getElem_toArray, List.getElem_cons_zero, List.getElem_cons_succ]
                refine take_s (i := 9) (v := ?_) rfl (by kernel_rfl) (by kernel_rfl) (by kernel_rfl) (fun _ _ _ h => h) (by rfl) ?_ hS ?_
                rotate_left
                · intro w' hLat; clear hLat; go_simp <;> with_reducible rfl
                try simp only [Act.put, List.setIfInBounds_toArray, List.set_cons_zero, List.set_cons_succ, List.getElem_toArray, List.getElem_cons_zero, List.getElem_cons_succ]
                refine take_s (i := 10) (v := ?_) rfl (by kernel_rfl) (by kernel_rfl) (by kernel_rfl) (fun _ _ _ h => h) (by rfl) ?_ hS ?_
                rotate_left
                · intro w' hLat; clear hLat; go_simp <;> with_reducible rfl
                try simp only [Act.put, List.setIfInBounds_toArray, List.set_cons_zero, List.set_cons_succ, List.getElem_toArray, List.getElem_cons_zero, List.getElem_cons_succ]
                refine take_s (i := 11) (v := ?_) rfl (by kernel_rfl) (by kernel_rfl) (by kernel_rfl) (fun _ _ _ h => h) (by rfl) ?_ hS ?_
                rotate_left
                · intro w' hLat; clear hLat; go_simp <;> with_reducible rfl
                try simp only [Act.put, List.setIfInBounds_toArray, List.set_cons_zero, List.set_cons_succ, List.getElem_toArray, List.getElem_cons_zero, List.getElem_cons_succ]
                refine take_s (i := 12) (v := .int .i64 ((p + x : Nat) : Int)) rfl (by kernel_rfl) (by kernel_rfl) (by kernel_rfl) (fun _ _ _ h => h) (by rfl) (fun w' hLat => exec_addI _ _ _ rfl _ _ _ HQ.out.1 rfl rfl) hS ?_
                try simp only [Act.put, List.setIfInBounds_toArray, List.set_cons_zero, List.set_cons_succ, List.getElem_toArray, List.getElem_cons_zero, List.getElem_cons_succ]
                refine take_s (i := 13) (v := .pointer (some ⟨ob, oo2 + (p + x) * 2, none⟩)) rfl (by kernel_rfl) (by kernel_rfl) (by kernel_rfl) (fun _ _ _ h => h) (by rfl) (fun w' hLat => exec_idxT 78 81 Tryd.underlying78 2 (by kernel_rfl) _ _ rfl ob oo2 (p + n) oc2 (p + x) rfl rfl HLX.out.2) hS ?_
                try simp only [Act.put, List.setIfInBounds_toArray, List.set_cons_zero, List.set_cons_succ, List.getElem_toArray, List.getElem_cons_zero, List.getElem_cons_succ]
                refine take_s (i := 14) (v := ?_) rfl (by kernel_rfl) (by kernel_rfl) (by kernel_rfl) (fun _ _ _ h => h) (by rfl) ?_ hS ?_
                rotate_left
                · intro w' hLat; clear hLat; go_simp <;> with_reducible rfl
                try simp only [Act.put, List.setIfInBounds_toArray, List.set_cons_zero, List.set_cons_succ, List.getElem_toArray, List.getElem_cons_zero, List.getElem_cons_succ]
                refine take_s (i := 15) (v := .int .i64 ((2 + q : Nat) : Int)) rfl (by kernel_rfl) (by kernel_rfl) (by kernel_rfl) (fun _ _ _ h => h) (by rfl) (fun w' hLat => exec_load1 3 _ _ rfl Tryd.underlying3 rfl _ rfl _ (HRC.out w' hLat).2) hS ?_
                try simp only [Act.put, List.setIfInBounds_toArray, List.set_cons_zero, List.set_cons_succ, List.getElem_toArray, List.getElem_cons_zero, List.getElem_cons_succ]
                refine take_s (i := 16) (v := ?_) rfl (by kernel_rfl) (by kernel_rfl) (by kernel_rfl) (fun _ _ _ h => h) (by rfl) ?_ hS ?_
                rotate_left
                · intro w' hLat; clear hLat; go_simp <;> with_reducible rfl
                try simp only [Act.put, List.setIfInBounds_toArray, List.set_cons_zero, List.set_cons_succ, List.getElem_toArray, List.getElem_cons_zero, List.getElem_cons_succ]
                refine take_s (i := 17) (v := ?_) rfl (by kernel_rfl) (by kernel_rfl) (by kernel_rfl) (fun _ _ _ h => h) (by rfl) ?_ hS ?_
                rotate_left
                · intro w' hLat; clear hLat; go_simp <;> with_reducible rfl
                try simp only [Act.put, List.setIfInBounds_toArray, List.set_cons_zero, List.set_cons_succ, List.getElem_toArray, List.getElem_cons_zero, List.getElem_cons_succ]
                refine take_s (i := 18) (v := .int .i64 ((at' + x : Nat) : Int)) rfl (by kernel_rfl) (by kernel_rfl) (by kernel_rfl) (fun _ _ _ h => h) (by rfl) (fun w' hLat => exec_addI _ _ _ rfl _ _ _ HQ.out.2.1 rfl rfl) hS ?_
                try simp only [Act.put, List.setIfInBounds_toArray, List.set_cons_zero, List.set_cons_succ, List.getElem_toArray, List.getElem_cons_zero, List.getElem_cons_succ]
                refine take_s (i := 19) (v := ?_) rfl (by kernel_rfl) (by kernel_rfl) (by kernel_rfl) (fun _ _ _ h => h) (by rfl) ?_ hS ?_
                rotate_left
                · intro w' hLat; clear hLat; go_simp <;> with_reducible rfl
                try simp only [Act.put, List.setIfInBounds_toArray, List.set_cons_zero, List.set_cons_succ, List.getElem_toArray, List.getElem_cons_zero, List.getElem_cons_succ]
                refine take_s (i := 20) (v := .int .i64 (q : Int)) rfl (by kernel_rfl) (by kernel_rfl) (by kernel_rfl) (fun _ _ _ h => h) (by rfl) (fun w' hLat => exec_remI _ _ _ rfl _ _ _ HQ.out.2.2.2.2 HQ.out.2.2.1 rfl rfl) hS ?_
                try simp only [Act.put, List.setIfInBounds_toArray, List.set_cons_zero, List.set_cons_succ, List.getElem_toArray, List.getElem_cons_zero, List.getElem_cons_succ]
                refine take_s (i := 21) (v := .int .i64 ((2 + q : Nat) : Int)) rfl (by kernel_rfl) (by kernel_rfl) (by kernel_rfl) (fun _ _ _ h => h) (by rfl) (fun w' hLat => exec_addI _ _ _ rfl _ _ _ HQ.out.2.2.2.1 rfl rfl) hS ?_
                try simp only [Act.put, List.setIfInBounds_toArray, List.set_cons_zero, List.set_cons_succ, List.getElem_toArray, List.getElem_cons_zero, List.getElem_cons_succ]
                refine take_s (i := 22) (v := .bool false) rfl (by kernel_rfl) (by kernel_rfl) (by kernel_rfl) (fun _ _ _ h => h) (by rfl) (fun w' hLat => exec_neI64 _ _ _ rfl _ rfl rfl) hS ?_
                try simp only [Act.put, List.setIfInBounds_toArray, List.set_cons_zero, List.set_cons_succ, List.getElem_toArray, List.getElem_cons_zero, List.getElem_cons_succ]
                refine take_s (i := 23) (v := ?_) rfl (by kernel_rfl) (by kernel_rfl) (by kernel_rfl) (fun _ _ _ h => h) (by rfl) ?_ hS ?_
                rotate_left
                · intro w' hLat; clear hLat; go_simp <;> with_reducible rfl
                try simp only [Act.put, List.setIfInBounds_toArray, List.set_cons_zero, List.set_cons_succ, List.getElem_toArray, List.getElem_cons_zero, List.getElem_cons_succ]
                refine wpAnyH_done (by kernel_rfl) ?_ _
                have HE : Box (Below x8.heap.size x8 wd) := ⟨hS⟩
                clear hS
                go_wp2
                go_roundw
                case rel => exact ⟨x + 1, HLX.out.1, by go_num, HE⟩
                case measure => simp [intOf]; have := HLX.out.1; omega
              · obtain rfl : n = x := by omega
                have hd1 : decide (n < n) = false := by simp
                clear hlt hxn HRX
                have HCX : Box (JC x1 wr J D fp6 { rgJ K k at' nx with nx := nx' } d' ∧ wr.heap[S6]? = some (.cells (sa s) 26 (0, 0))) := ⟨H8a.out.1.below HG.out, (HG.out.block S6 (Array.getElem?_eq_some_iff.1 H8a.out.2).1).trans H8a.out.2⟩
                obtain ⟨at2, hat2⟩ : ∃ q, (at' + n) % k = q := ⟨_, rfl⟩
                obtain ⟨ja, hja⟩ : ∃ ja, adp { rgJ K k at' nx with nx := nx' } s 1099511627776 = ja := ⟨_, rfl⟩
                have HJA : Box (adp { rgJ K k at' nx with nx := nx' } s 1099511627776 = ja ∧ ja.Ok ∧ ja.st = s ∧ ja.size = k ∧ (ety ja).start = at2 ∧ adp ja (ety ja) 1099511627776 = rgJ K k at2 nx' ∧ OkS (ety ja) ∧ at2 < k) := ⟨by
                  have hm1 : may k s = true := by
                    have h1 := HSS.out.2.1
                    have h2 := HSS.out.2.2.1
                    have h3 : at' < k := HCX.out.1.ok.sl
                    have := HN.out
                    simp [may, h1, h2]
                    omega
                  have e1 : ja = { rgJ K k at' nx with nx := nx', st := s, lim := mn63 1099511627776 } := by
                    rw [← hja]
                    unfold adp
                    rw [if_pos (show may ({ rgJ K k at' nx with nx := nx' } : Jt).size s = true from hm1)]
                  have okj : ja.Ok := by rw [← hja]; exact ok_adp HCX.out.1.ok HSS.out.1 (by omega)
                  have e2 : (ety ja).start = at2 := by
                    rw [e1, ← hat2]
                    show (s.start + s.count) % k = (at' + n) % k
                    rw [HSS.out.2.1, HSS.out.2.2.1]
                  have hlt2 : at2 < k := by rw [← hat2]; exact Nat.mod_lt _ (by have := HK9.out; omega)
                  refine ⟨hja, okj, by rw [e1], by rw [e1]; rfl, e2, ?_, okS_ety ja okj, hlt2⟩
                  have hm2 : may ja.size (ety ja) = true := by
                    have h1 : ja.size = k := by rw [e1]; rfl
                    simp [may, h1, e2, hlt2]
                    exact Nat.zero_le _
                  unfold adp
                  rw [if_pos hm2]
                  have e3 : ety ja = ⟨at2, 0, z32⟩ := by
                    have : ety ja = ⟨(ety ja).start, 0, z32⟩ := rfl
                    rw [this, e2]
                  rw [e3, e1]
                  rfl⟩
                have HAD : Box (Calls Tryd.prog 23 #[.pointer (some ⟨J, 0, none⟩), .agg (sa s), .int .u64 1099511627776] wr fun e w' => e = .returned (.tuple #[]) ∧ JC x1 w' J D fp6 ja d') := ⟨by
                  have := adopt_v HCX.out.1 s HSS.out.1 1099511627776 ⟨by omega, by omega⟩
                  rw [HJA.out.1] at this
                  exact this.mono fun e w' ⟨h1, h2, _⟩ => ⟨h1, h2⟩⟩
                have HRS : Box (wr.rangeAt S6 0 (scs s)) := ⟨range_sa HCX.out.2⟩
                go_upto_region 30 with (first
                  | (refine atLoad 26 ?_; refine wpList_ldMid rfl 26 _ _ rfl Tryd.underlying26 rfl S6 0 rfl (scs s) HIS.out.2.2.1 HRS.out ?_; rw [HIS.out.2.2.2])
                  | (go_at_call 23; refine HAD.out.mono ?_; rintro e y1 ⟨rfl, hc⟩; have H9 : Box (JC x1 y1 J D fp6 ja d') := ⟨hc⟩; clear hc))
                have hwA : IntKind.i64.wrap ((at' : Int) + (n : Int)) = ((at' + n : Nat) : Int) := by have := HPB.out; have := HN.out; rw [IntKind.wrap_i64]; omega
                have hwB : ((at' + n : Nat) : Int).tmod (k : Int) = (at2 : Int) := by rw [← hat2]; rfl
                have hwB2 : ((at' : Int) + (n : Int)).tmod (k : Int) = (at2 : Int) := by rw [← hat2]; rfl
                clear hat2 hja HAD HRS
                go_upto_region 31 with fail
                clear hwA hwB hwB2
                obtain ⟨r, hr⟩ : ∃ r, k - n = r := ⟨_, rfl⟩
                have hwr : IntKind.i64.wrap ((k : Int) - (n : Int)) = (r : Int) := by have := HN.out; have := HK9.out; rw [IntKind.wrap_i64]; omega
                have hwru : IntKind.u64.wrap (r : Int) = (r : Int) := by have := HN.out; have := HK9.out; rw [IntKind.wrap_u64]; omega
                have hwau : IntKind.u64.wrap (at2 : Int) = (at2 : Int) := by have := HJA.out.2.2.2.2.2.2.2; have := HK9.out; rw [IntKind.wrap_u64]; omega
                have HRM : Box (Calls Tryd.prog 16 #[.pointer (some ⟨J, 0, none⟩)] y1 fun e w' => e = .returned (.int .u64 (r : Int)) ∧ Below y1.heap.size y1 w') := ⟨by
                  have := room_any H9.out.rd HJA.out.2.1
                  rw [HJA.out.2.2.2.1, HJA.out.2.2.1, HSS.out.2.2.1, hr] at this
                  exact this.mono fun e w' ⟨h1, m, h2⟩ => ⟨h1, by rw [h2]; exact below_drewN (Below.refl _ _) m⟩⟩
                have HEM : Box (∀ x, Below y1.heap.size y1 x → Calls Tryd.prog 17 #[.pointer (some ⟨J, 0, none⟩)] x fun e w' => e = .returned (.agg (sa (ety ja))) ∧ Below x.heap.size x w') := ⟨fun x hx => empty_any (H9.out.below hx).row HJA.out.2.1⟩
                have hes := HJA.out.2.2.2.2.1
                obtain ⟨se, hse⟩ : ∃ se, ety ja = se := ⟨_, rfl⟩
                rw [hse] at hes
                simp only [hse] at HEM
                have HSO : Box (OkS se) := ⟨by rw [← hse]; exact HJA.out.2.2.2.2.2.2.1⟩
                have HADP : Box (adp ja se 1099511627776 = rgJ K k at2 nx') := ⟨by rw [← hse]; exact HJA.out.2.2.2.2.2.1⟩
                have HRGI : Box (∀ w', JC x1 w' J D fp6 (rgJ K k at2 nx') d' → RgI x1 w' J D K k (i + 1) at2) := ⟨fun w' h2 => by
                  obtain ⟨_, _, _, s4, s5, s6, s7, s8, s9, s10, _⟩ := HSS.out
                  obtain ⟨b1, b2, b3, b4⟩ := HCB.out
                  obtain ⟨n1, n2, n3⟩ := HN.out
                  exact ⟨HJA.out.2.2.2.2.2.2.2, fp6, d', nx', h2, by clear HSS HJA H9 H7a H8 H8a HCX; omega, by clear HSS HJA H9 H7a H8 H8a HCX; omega, s6, s7, by clear HSS HJA H9 H7a H8 H8a HCX; omega, by clear HSS HJA H9 H7a H8 H8a HCX; omega, s9⟩⟩
                clear hse hr
                go_upto_region 33 with (first
                  | (go_at_call 16; refine HRM.out.mono ?_; rintro e y2 ⟨rfl, hb⟩; have H10 : Box (Below y1.heap.size y1 y2) := ⟨hb⟩; clear hb)
                  | (go_at_call 17; refine (HEM.out _ H10.out).mono ?_; rintro e y3 ⟨rfl, hb⟩; have H11 : Box (Below y1.heap.size y1 y3) := ⟨below_to H10.out hb⟩; clear hb)
                  | (refine atField 26 ?_; refine wpList_runG (by rfl) _ _ (exec_fieldS0 _ rfl se rfl) ?_; (try rw [hes])))
                clear HRM hwr hwru hwau
                have HAD2 : Box (∀ x, Below y1.heap.size y1 x → Calls Tryd.prog 23 #[.pointer (some ⟨J, 0, none⟩), .agg (sa se), .int .u64 1099511627776] x fun e w' => e = .returned (.tuple #[]) ∧ RgI x1 w' J D K k (i + 1) at2) := ⟨fun x hx => by
                  have h0 := adopt_v (H9.out.below hx) se HSO.out 1099511627776 ⟨by decide, by decide⟩
                  rw [HADP.out] at h0
                  exact h0.mono fun e w' ⟨h1, h2, _⟩ => ⟨h1, HRGI.out w' h2⟩⟩
                have hw4 : IntKind.i64.wrap ((i : Int) + 1) = ((i + 1 : Nat) : Int) := by rw [IntKind.wrap_i64]; have := HLT.out; omega
                go_wp2_with (first
                  | (go_at_call 17; refine (HEM.out _ H11.out).mono ?_; rintro e y4 ⟨rfl, hb⟩; have H12 : Box (Below y1.heap.size y1 y4) := ⟨below_to H11.out hb⟩; clear hb)
                  | (go_at_call 23; refine (HAD2.out _ H12.out).mono ?_; rintro e y5 ⟨rfl, hg⟩; have H13 : Box (RgI x1 y5 J D K k (i + 1) at2) := ⟨hg⟩; clear hg))
                exact ⟨⟨i + 1, at2, by have := HLT.out; omega, by have := HLT.out; omega, by go_num, rfl, H13⟩, by simp [intOf]; have := HLT.out; omega⟩
      · have hd1 : decide ((i : Int) < (len : Int)) = true := by simp; omega
        have hd1n : decide (i < len) = true := by simp; omega
        have hd2 : decide ((i : Int) < 10) = false := by simp; omega
        go_wp2
        go_ret
        exact ⟨rfl, HFI.out⟩
    · have hd1 : decide ((i : Int) < (len : Int)) = false := by simp; omega
      have hd1n : decide (i < len) = false := by simp; omega
      go_wp2
      go_ret
      exact ⟨rfl, HFI.out⟩
end Go.Proofs.YtipdaaajnbjnjaaDoor
