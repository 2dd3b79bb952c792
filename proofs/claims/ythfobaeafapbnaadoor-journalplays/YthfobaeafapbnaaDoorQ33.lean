/-
 Awake of the laws of layer 13: a journal of two places. And what follows it.
-/
import Derived.Test.YthfobaeafapbnaaDoorQ32
import Derived.Test.YthfobaeafapbnaaDoorQ29
import Derived.Deep.Grids
import Derived.Deep.Slices
import Derived.Test.YthfobaeafapbnaaDoorQ23
set_option linter.unusedVariables false
set_option maxRecDepth 100000
namespace Go.Proofs.YthfobaeafapbnaaDoor
open Go.RowKit Plain
attribute [local go_sem] Oper.semAt_some
def k1 : List Int := 1 :: List.replicate 31 0
theorem len_k1 : k1.length = 32 := by simp [k1]
theorem byt_k1 : Byt k1 := fun i => by
 cases i with
 | zero => decide
 | succ i => simpa [k1] using byt_zeros 31 i
theorem built_K : Tryd.prog.built 23 [(0, .int .u8 1)] = some (u8s k1) := by kernel_rfl
theorem built_Z : Tryd.prog.built 23 [] = some (u8s z32) := by kernel_rfl
theorem exec_make160 {o : Oper} {ρ : Operand -> Value} {w : World} (l c : Operand) (ho : o.op = .makeSlice 63 l c) (hl : ρ l = .int .i64 160) (hc : ρ c = .int .i64 160) :
  (execOp ρ o).run Tryd.prog w = .ok (.value (.slice (some ⟨w.heap.size, 0, none⟩) 160 160)) (w.alloc (.cells (u8s z160) 5)) := by
 have := Disk.exec_make (P := Tryd.prog) (o := o) (ρ := ρ) (w := w) 63 5 l c ho (.int .u8 0) 1 1 Tryd.underlying63 info5 160 hl hc (by decide) (by decide)
 have e : madeCells (Value.int .u8 0).cells (160 * 1) = u8s z160 := Disk.made_bytes 160
 rw [e] at this
 exact this
theorem imgs_of_row {w : World} {g : Nat} {M : List Im} {t : TypeId} {fr : Nat × Nat} (h : w.heap[g]? = some (.cells ((M.map imc).flatten).toArray t fr)) (hb : ∀ m ∈ M, Bytes w m.ba m.bl m.bs /\ N64 m.blk /\ m.bl <= m.bc /\ m.bc <= maxLen) : Imgs w (some ⟨g, 0, none⟩) M := by
 refine ⟨fun _ => ⟨g, 0, rfl, (Array.getElem?_eq_some_iff.1 h).1, fun i hi j v hv => ?_⟩, hb⟩
 have hj : j < 2 := by have := (List.getElem?_eq_some_iff.1 hv).1; simpa [imc] using this
 rw [cell_of_row _ _ _ _ _ _ h, Nat.zero_add, List.getElem?_toArray, flat_get imc 2 (fun _ => rfl) M i hi j hj]
 exact hv
theorem ap_one (j : Jt) (d : Disk.Dk) (x : Int × List Int) (hx : x.2.length = 160) (h1 : j.st.count + 1 <= j.size) (h2 : j.nx + 1 <= j.lim) (hd : d.down = false) (hs : d.st = false) :
  appM j d [x] = (Disk.wrOk d (plc j (j.st.start + j.st.count)) (slt j.key (plc j (j.st.start + j.st.count) : Int) j.nx (x, true)), j.nx + 1, 0, nxS j j.st (plc j (j.st.start + j.st.count)) (slt j.key (plc j (j.st.start + j.st.count) : Int) j.nx (x, true))) := by
 have hb : bad [x] = false := by simp [bad, hx]
 have ht : tke j [x].length = 0 := by
  unfold tke
  rw [if_neg (by simp; omega), if_neg (by simp; omega)]
 have ho : ofP [x] = [(x, true)] := by simp [ofP]
 have hw : ∀ p S, dwr d p S = (Disk.wrOk d p S, 0) := fun p S => by simp [dwr, hd, hs]
 have ha : apL j (d, j.nx, 0, j.st) [(x, true)] = (Disk.wrOk d (plc j (j.st.start + j.st.count)) (slt j.key (plc j (j.st.start + j.st.count) : Int) j.nx (x, true)), j.nx + 1, 0, nxS j j.st (plc j (j.st.start + j.st.count)) (slt j.key (plc j (j.st.start + j.st.count) : Int) j.nx (x, true))) := by
  show apS j (d, j.nx, 0, j.st) (x, true) = _
  unfold apS apT apP
  simp [hw]
 unfold appM
 rw [if_neg (by rw [hb]; simp), if_neg (fun h => h ht), ho, ha]
 simp
def j1 : Jt := ⟨k1, 1, 2, zs, 1, 100⟩
def x3 : Int × List Int := (3, z160)
theorem aw_three (d : Disk.Dk) : appM j1 d [x3, x3, x3] = (d, 1, 17, zs) := by
 have hb : bad [x3, x3, x3] = false := by simp [bad, x3, len_z160]
 have ht : tke j1 [x3, x3, x3].length = 17 := by decide
 unfold appM
 rw [if_neg (by rw [hb]; simp), if_pos (by rw [ht]; decide), ht]
 rfl
end Go.Proofs.YthfobaeafapbnaaDoor
namespace Go.Proofs.YthfobaeafapbnaaDoor
open Go.RowKit Plain
attribute [local go_sem] Oper.semAt_some
theorem aw_imgs {w y : World} {g N n : Nat} (hg : w.heap[g]? = some (.cells (u8s z160) 5 (0, 0))) (hb : Below w.heap.size w y) (cs : Array Value) (hr : y.heap[N]? = some (.cells cs 65 (0, 0))) (hc : cs = ((List.replicate n (⟨3, some ⟨g, 0, none⟩, 160, 160, z160⟩ : Im)).map imc).flatten.toArray) : Imgs y (some ⟨N, 0, none⟩) (List.replicate n ⟨3, some ⟨g, 0, none⟩, 160, 160, z160⟩) := by
 subst hc
 refine imgs_of_row hr (fun m hm => ?_)
 rw [List.mem_replicate] at hm
 obtain ⟨_, rfl⟩ := hm
 have hgy : y.heap[g]? = some (.cells (u8s z160) 5 (0, 0)) := (hb.block g (Array.getElem?_eq_some_iff.1 hg).1).trans hg
 refine ⟨?_, ⟨by show (0 : Int) <= 3; decide, by show (3 : Int) <= _; decide⟩, by show 160 <= 160; omega, by show 160 <= maxLen; unfold maxLen; omega⟩
 have := bytes_of_row byt_z160 hgy
 rwa [len_z160] at this
set_option maxHeartbeats 8000000 in
theorem awake_v (w : World) (hT : Dig.Tabs w) (hT2 : Seal.Tab w) : Calls Tryd.prog 4 #[] w fun e w' => e = .returned (.bool true) /\ Below w.heap.size w w' := by
 obtain ⟨D, hD⟩ : ∃ D, w.heap.size + 1 = D := ⟨_, rfl⟩
 have HD : Box (Calls Tryd.prog 5 #[.int .i64 4] w fun e w' => e = .returned (.tuple #[.pointer (some ⟨D, 0, none⟩), .int .i64 0]) /\ ∃ fp, Disk.Cx w w' D fp (Disk.dk0 4)) := ⟨by have := Disk.new_cx w 4 ⟨by omega, by omega⟩; rw [hD] at this; exact this⟩
 obtain ⟨d0, hd0⟩ : ∃ d0, Disk.dk0 4 = d0 := ⟨_, rfl⟩
 rw [hd0] at HD
 have HD0 : Box (d0.down = false /\ d0.st = false /\ d0.n = 4 /\ d0.ops.length = 0 /\ d0.uw.length = 0 /\ (0 <= d0.left /\ d0.left <= 9223372036854775807)) := ⟨by rw [<- hd0]; exact ⟨rfl, rfl, rfl, rfl, rfl, by decide, by decide⟩⟩
 have HT : Box (Dig.Tabs w /\ Seal.Tab w) := ⟨hT, hT2⟩
 obtain ⟨AK, HAK⟩ : ∃ A, Box (u8s k1 = A) := ⟨_, ⟨rfl⟩⟩
 obtain ⟨SZ, HSZ⟩ : ∃ A, Box (sa zs = A) := ⟨_, ⟨rfl⟩⟩
 obtain ⟨d1, s1, HS1⟩ : ∃ d1 s1, Box (appM j1 d0 [x3] = (d1, 2, 0, s1) /\ s1.start = 0 /\ s1.count = 1 /\ OkS s1 /\ d1.uw.length = 1) := ⟨_, _, ⟨ap_one j1 d0 x3 len_z160 (by decide) (by decide) HD0.out.1 HD0.out.2.1, rfl, rfl, ⟨length_dsha _, byt_dsha _, by decide, by decide⟩, by simp [Disk.wrOk, HD0.out.2.2.2.2.1]⟩⟩
 obtain ⟨SA, HSA⟩ : ∃ A, Box (sa s1 = A) := ⟨_, ⟨rfl⟩⟩
 have HIS : Box ((Tryd.prog.info? 26).map (·.size) = some SA.size /\ (sa zs).size = SA.size /\ SA.all (·.oneCell') = true /\ (Tryd.prog.info? 26).map (·.size) = some (sa zs).size /\ (Tryd.prog.info? 26).map (·.size) = some (scs s1).length /\ (scs s1).toArray = SA) := ⟨by rw [<- HSA.out, size_sa HS1.out.2.2.2.1]; exact infoSt, by rw [<- HSA.out, size_sa HS1.out.2.2.2.1, size_sa okS_zs], by rw [<- HSA.out]; exact all_sa s1, by rw [size_sa okS_zs]; exact infoSt, by rw [len_scs HS1.out.2.2.2.1]; exact infoSt, by rw [<- HSA.out]; rfl⟩
 clear hT hT2 hD hd0
 go_enter Tryd.func4, Tryd.ntmps4
 go_upto_region 2 with (go_at_call 5; refine HD.out.mono ?_; rintro e x1 ⟨rfl, fp1, hc⟩; have H1 : Box (Disk.Cx w x1 D fp1 d0) := ⟨hc⟩; clear hc)
 have HJN : Box (Calls Tryd.prog 7 #[.pointer (some ⟨D, 0, none⟩), .agg AK, .int .i64 1, .int .i64 2, .agg SZ, .int .u64 1, .int .u64 100] x1 fun e w' => ∃ J, e = .returned (.tuple #[.pointer (some ⟨J, 0, none⟩), .int .i64 0]) /\ JC w w' J D fp1 j1 d0) := ⟨by
  have := jnew_ok H1.out k1 ⟨len_k1, byt_k1⟩ 1 2 (by omega) (by rw [HD0.out.2.2.1]; omega) (by rw [HD0.out.2.2.1]; omega) zs okS_zs (by decide) 1 100 ⟨by omega, by omega⟩ ⟨by omega, by omega⟩ HT.out.1 HT.out.2
  rw [HAK.out, HSZ.out] at this
  exact this.mono fun e w' ⟨J, h1, h2, _⟩ => ⟨J, h1, h2⟩⟩
 go_upto_region 3 with (first
  | (refine atBuild 23 ?_; refine wpList_run rfl _ _ (exec_built 23 [(0, .const (.int .u8 1))] rfl [(0, .int .u8 1)] rfl AK (by rw [<- HAK.out]; exact built_K)) ?_)
  | (refine atBuild 26 ?_; refine wpList_run rfl _ _ (exec_built 26 [] rfl [] rfl SZ (by rw [<- HSZ.out]; exact built_St0)) ?_)
  | (go_at_call 7; refine HJN.out.mono ?_; rintro e x2 ⟨J, rfl, hc⟩; have H2 : Box (JC w x2 J D fp1 j1 d0) := ⟨hc⟩; clear hc))
 clear HJN HD
 go_upto_region 5 with fail
 obtain ⟨g, hg⟩ : ∃ g, x2.heap.size = g := ⟨_, rfl⟩
 obtain ⟨x4, hx4⟩ : ∃ x, x2.alloc (.cells (u8s z160) 5) = x := ⟨_, rfl⟩
 have hr4 : x4.heap[g]? = some (.cells (u8s z160) 5 (0, 0)) := by rw [<- hx4]; exact al_at hg
 have hb4 : Below x2.heap.size x2 x4 := by rw [<- hx4]; exact (Below.refl _ _).alloc (Nat.le_refl _) _
 have HG : Box (x2.heap.size = g) := ⟨hg⟩
 have H4 : Box (x4.heap[g]? = some (.cells (u8s z160) 5 (0, 0)) /\ Below x2.heap.size x2 x4) := ⟨hr4, hb4⟩
 have HII : Box ((Tryd.prog.info? 65).map (·.size) = some (#[Value.int .u64 3, .slice (some ⟨g, 0, none⟩) 160 160] : Array Value).size) := ⟨infoIm⟩
 clear hr4 hb4
 go_upto_region 6 with (first
  | (at_make; refine wpList_run rfl _ _ (exec_make160 _ _ rfl rfl rfl) ?_; (try simp only [hg, hx4]))
  | (refine atBuild 65 ?_; refine wpList_run rfl _ _ (exec_built 65 [(0, .const (.int .u64 3)), (1, .tmp 33)] rfl [(0, .int .u64 3), (1, .slice (some ⟨g, 0, none⟩) 160 160)] rfl _ (built_Im _ _ _ _)) ?_)
  | (refine atAlloc _ ?_; refine wpList_run rfl _ _ (exec_alloc 65 rfl _ zeroIm) ?_)
  | (refine atStore _ ?_; refine wpList_newRow x4 #[.int .u64 0, .slice none 0 0] #[.int .u64 3, .slice (some ⟨g, 0, none⟩) 160 160] HII.out rfl (by simp [Value.oneCell']) rfl _ _ rfl rfl rfl rfl ?_; intro x5 h5 hb5; have H5 : Box (x5.heap[x4.heap.size]? = some (.cells #[.int .u64 3, .slice (some ⟨g, 0, none⟩) 160 160] 65 (0, 0)) /\ Below x4.heap.size x4 x5) := ⟨h5, hb5⟩; clear h5 hb5))
 obtain ⟨X, hX⟩ : ∃ X, x4.heap.size = X := ⟨_, rfl⟩
 (try simp only [hX])
 rw [hX] at H5
 have HX : Box (x4.heap.size = X) := ⟨hX⟩
 clear hX hg hx4 HII
 have H5g : Box (x5.heap[g]? = some (.cells (u8s z160) 5 (0, 0)) /\ JC w x5 J D fp1 j1 d0 /\ X < x5.heap.size /\ g < X) := ⟨by
  have hl := (Array.getElem?_eq_some_iff.1 H4.out.1).1
  have hb := H5.out.2
  rw [<- HX.out] at hb
  exact ⟨(hb.block g hl).trans H4.out.1, H2.out.below (below_to H4.out.2 hb), (Array.getElem?_eq_some_iff.1 H5.out.1).1, by rw [<- HX.out]; exact hl⟩⟩
 have HXR : Box (x5.rangeAt X 0 [.int .u64 3, .slice (some ⟨g, 0, none⟩) 160 160]) := ⟨fun i v hv => by rw [cell_of_row _ _ _ _ _ _ H5.out.1, Nat.zero_add]; simpa using hv⟩
 -- three
 have HA3 : Box (Calls Tryd.prog 16 #[.pointer (some ⟨J, 0, none⟩), .slice (some ⟨x5.heap.size, 0, none⟩) 3 3] (x5.alloc (.cells #[.int .u64 3, .slice (some ⟨g, 0, none⟩) 160 160, .int .u64 3, .slice (some ⟨g, 0, none⟩) 160 160, .int .u64 3, .slice (some ⟨g, 0, none⟩) 160 160] 65)) fun e w' => e = .returned (.tuple #[.agg SZ, .int .i64 17]) /\ ∃ fp', JC w w' J D fp' j1 d0 /\ Fw (fun k => k = J) x5 w' fp1 fp') := ⟨by
  obtain ⟨y, hy⟩ : ∃ y, x5.alloc (.cells #[.int .u64 3, .slice (some ⟨g, 0, none⟩) 160 160, .int .u64 3, .slice (some ⟨g, 0, none⟩) 160 160, .int .u64 3, .slice (some ⟨g, 0, none⟩) 160 160] 65) = y := ⟨_, rfl⟩
  rw [hy]
  have hb : Below x5.heap.size x5 y := by rw [<- hy]; exact (Below.refl _ _).alloc (Nat.le_refl _) _
  have hM := aw_imgs (n := 3) H5g.out.1 hb _ (by rw [<- hy]; exact al_at rfl) rfl
  have := append_v (H5g.out.2.1.below hb) _ 3 _ hM (by simp) (fun m hm => by rw [List.mem_replicate] at hm; rw [hm.2]; show 160 <= _; omega) HD0.out.2.2.2.2.2 (by have := HD0.out; omega) (by have := HD0.out; omega)
  have e3 : appM j1 d0 ((List.replicate 3 (⟨3, some ⟨g, 0, none⟩, 160, 160, z160⟩ : Im)).map pl) = (d0, 1, 17, zs) := aw_three d0
  rw [e3] at this
  refine this.mono ?_
  rintro e w' ⟨fp', q1, q2, q3⟩
  exact ⟨by rw [q1, HSZ.out], fp', q2, (Fw.below _ fp1 hb).trans q3⟩⟩
 have HSZI : Box ((Tryd.prog.info? 26).map (·.size) = some SZ.size /\ (sa zs).size = SZ.size /\ SZ.all (·.oneCell') = true) := ⟨by rw [<- HSZ.out, size_sa okS_zs]; exact infoSt, by rw [HSZ.out], by rw [<- HSZ.out]; exact all_sa zs⟩
 go_upto_region 7 with (first
  | (refine atLoad 65 ?_; refine wpList_ldMid rfl 65 _ _ rfl Tryd.underlying65 rfl X 0 rfl [.int .u64 3, .slice (some ⟨g, 0, none⟩) 160 160] infoIm HXR.out ?_)
  | (go_at_call 16; refine HA3.out.mono ?_; rintro e x6 ⟨rfl, fp6, hc, hf⟩; have H6 : Box (JC w x6 J D fp6 j1 d0 /\ Fw (fun k => k = J) x5 x6 fp1 fp6) := ⟨hc, hf⟩; clear hc hf)
  | (refine atAlloc _ ?_; refine wpList_run rfl _ _ (exec_alloc 26 rfl _ zeroSt) ?_)
  | (refine atStore _ ?_; refine wpList_newRow x6 (sa zs) SZ HSZI.out.1 HSZI.out.2.1 HSZI.out.2.2 rfl _ _ rfl rfl rfl rfl ?_; intro x7 h7 hb7; have H7 : Box (Below x6.heap.size x6 x7) := ⟨hb7⟩; clear h7 hb7))
 clear HA3 HXR
 have H7a : Box (JC w x7 J D fp6 j1 d0 /\ x7.heap[X]? = some (.cells #[.int .u64 3, .slice (some ⟨g, 0, none⟩) 160 160] 65 (0, 0)) /\ x7.heap[g]? = some (.cells (u8s z160) 5 (0, 0))) := ⟨by
  have hJ := H2.out.lt
  have h4 := H4.out.2.size
  have hgl := H5g.out.2.2.2
  have hXl := H5g.out.2.2.1
  have hgs := HG.out
  have old : ∀ i, g <= i -> i < x5.heap.size -> x7.heap[i]? = x5.heap[i]? := fun i h1 h2 => by
   have e6 := H6.out.2.block (k := i) h2 (fun h => by have := H2.out.cx.hi i h; omega) (by omega)
   exact (H7.out.block i (by have := H6.out.2.size; omega)).trans e6
  exact ⟨H6.out.1.below H7.out, (old X (by omega) hXl).trans H5.out.1, (old g (Nat.le_refl _) (by omega)).trans H5g.out.1⟩⟩
 have HXR : Box (x7.rangeAt X 0 [.int .u64 3, .slice (some ⟨g, 0, none⟩) 160 160]) := ⟨fun i v hv => by rw [cell_of_row _ _ _ _ _ _ H7a.out.2.1, Nat.zero_add]; simpa using hv⟩
 -- one
 have HA1 : Box (Calls Tryd.prog 16 #[.pointer (some ⟨J, 0, none⟩), .slice (some ⟨x7.heap.size, 0, none⟩) 1 1] (x7.alloc (.cells #[.int .u64 3, .slice (some ⟨g, 0, none⟩) 160 160] 65)) fun e w' => e = .returned (.tuple #[.agg SA, .int .i64 0]) /\ ∃ fp', JC w w' J D fp' { j1 with nx := 2 } d1 /\ Below w.heap.size w w') := ⟨by
  obtain ⟨y, hy⟩ : ∃ y, x7.alloc (.cells #[.int .u64 3, .slice (some ⟨g, 0, none⟩) 160 160] 65) = y := ⟨_, rfl⟩
  rw [hy]
  have hb : Below x7.heap.size x7 y := by rw [<- hy]; exact (Below.refl _ _).alloc (Nat.le_refl _) _
  have hM := aw_imgs (n := 1) H7a.out.2.2 hb _ (by rw [<- hy]; exact al_at rfl) rfl
  have := append_v (H7a.out.1.below hb) _ 1 _ hM (by simp) (fun m hm => by rw [List.mem_replicate] at hm; rw [hm.2]; show 160 <= _; omega) HD0.out.2.2.2.2.2 (by have := HD0.out; omega) (by have := HD0.out; omega)
  have e3 : appM j1 d0 ((List.replicate 1 (⟨3, some ⟨g, 0, none⟩, 160, 160, z160⟩ : Im)).map pl) = (d1, 2, 0, s1) := HS1.out.1
  rw [e3] at this
  refine this.mono ?_
  rintro e w' ⟨fp', q1, q2, q3⟩
  exact ⟨by rw [q1, HSA.out], fp', q2, q2.cx.bel⟩⟩
 go_upto_region 8 with (first
  | (refine atLoad 65 ?_; refine wpList_ldMid rfl 65 _ _ rfl Tryd.underlying65 rfl X 0 rfl [.int .u64 3, .slice (some ⟨g, 0, none⟩) 160 160] infoIm HXR.out ?_)
  | (go_at_call 16; refine HA1.out.mono ?_; rintro e x8 ⟨rfl, fp8, hc, hf⟩; have H8 : Box (JC w x8 J D fp8 { j1 with nx := 2 } d1) := ⟨hc⟩; clear hc hf)
  | (refine atAlloc _ ?_; refine wpList_run rfl _ _ (exec_alloc 26 rfl _ zeroSt) ?_)
  | (refine atStore _ ?_; refine wpList_newRow x8 (sa zs) SA HIS.out.1 HIS.out.2.1 HIS.out.2.2.1 rfl _ _ rfl rfl rfl rfl ?_; intro x9 h9 hb9; have H9 : Box (x9.heap[x8.heap.size]? = some (.cells SA 26 (0, 0)) /\ Below x8.heap.size x8 x9) := ⟨h9, hb9⟩; clear h9 hb9))
 clear HA1 HXR
 obtain ⟨S8, hS8⟩ : ∃ S8, x8.heap.size = S8 := ⟨_, rfl⟩
 (try simp only [hS8])
 have HS8 : Box (x8.heap.size = S8) := ⟨hS8⟩
 rw [hS8] at H9
 clear hS8
 obtain ⟨j2, HJ2⟩ : ∃ j2, Box (adp { j1 with nx := 2 } s1 100 = j2 /\ j2.Ok /\ j2.st = s1 /\ j2.nx = 2 /\ j2.size = 2) := ⟨_, ⟨rfl, ok_adp H8.out.ok HS1.out.2.2.2.1 (by omega), by
  have hm : may 2 s1 = true := by simp [may, HS1.out.2.1, HS1.out.2.2.1]
  have : may ({ j1 with nx := 2 } : Jt).size s1 = true := hm
  unfold adp
  rw [if_pos this]
  exact ⟨rfl, rfl, rfl⟩⟩⟩
 have HAD : Box (Calls Tryd.prog 17 #[.pointer (some ⟨J, 0, none⟩), .agg SA, .int .u64 100] x9 fun e w' => e = .returned (.tuple #[]) /\ JC w w' J D fp8 j2 d1 /\ w'.heap[S8]? = some (.cells SA 26 (0, 0))) := ⟨by
  have hb9 := H9.out.2
  rw [<- HS8.out] at hb9
  have C9 := H8.out.below hb9
  have := adopt_v C9 s1 HS1.out.2.2.2.1 100 ⟨by omega, by omega⟩
  rw [HSA.out, HJ2.out.1] at this
  refine this.mono ?_
  rintro e w' ⟨q1, q2, q3⟩
  have hJ := H8.out.lt
  have h8 := HS8.out
  exact ⟨q1, q2, (q3.block (k := S8) (Array.getElem?_eq_some_iff.1 H9.out.1).1 (fun h => by have := H8.out.cx.hi S8 h; omega) (by omega)).trans H9.out.1⟩⟩
 have HR9 : Box (x9.rangeAt S8 0 (scs s1)) := ⟨fun i v hv => by rw [cell_of_row _ _ _ _ _ _ H9.out.1, Nat.zero_add, <- HIS.out.2.2.2.2.2]; simpa using hv⟩
 go_upto_region 9 with (first
  | (refine atLoad 26 ?_; refine wpList_ldMid rfl 26 _ _ rfl Tryd.underlying26 rfl S8 0 rfl (scs s1) HIS.out.2.2.2.2.1 HR9.out ?_; rw [HIS.out.2.2.2.2.2])
  | (go_at_call 17; refine HAD.out.mono ?_; rintro e x10 ⟨rfl, hc, hr⟩; have H10 : Box (JC w x10 J D fp8 j2 d1 /\ x10.heap[S8]? = some (.cells SA 26 (0, 0))) := ⟨hc, hr⟩; clear hc hr))
 clear HAD HR9
 have HSTA : Box (Calls Tryd.prog 11 #[.pointer (some ⟨J, 0, none⟩)] x10 fun e w' => e = .returned (.tuple #[.agg SA, .int .u64 2]) /\ Below x10.heap.size x10 w') := ⟨by
  have := state_any H10.out.1.row HJ2.out.2.1
  rw [HJ2.out.2.2.1, HSA.out, HJ2.out.2.2.2.1] at this
  exact this⟩
 go_upto_region 10 with (first
  | (go_at_call 11; refine HSTA.out.mono ?_; rintro e x11 ⟨rfl, hb⟩; have H11 : Box (Below x10.heap.size x10 x11) := ⟨hb⟩; clear hb)
  | (refine atAlloc _ ?_; refine wpList_run rfl _ _ (exec_alloc 26 rfl _ zeroSt) ?_)
  | (refine atStore _ ?_; refine wpList_newRow x11 (sa zs) SA HIS.out.1 HIS.out.2.1 HIS.out.2.2.1 rfl _ _ rfl rfl rfl rfl ?_; intro x12 h12 hb12; have H12 : Box (x12.heap[x11.heap.size]? = some (.cells SA 26 (0, 0)) /\ Below x11.heap.size x11 x12) := ⟨h12, hb12⟩; clear h12 hb12))
 obtain ⟨S11, hS11⟩ : ∃ S11, x11.heap.size = S11 := ⟨_, rfl⟩
 (try simp only [hS11])
 have H13 : Box (x12.heap[S11]? = some (.cells SA 26 (0, 0)) /\ x12.heap[S8]? = some (.cells SA 26 (0, 0)) /\ JC w x12 J D fp8 j2 d1) := ⟨by
  have hb := below_to H11.out H12.out.2
  rw [<- hS11]
  exact ⟨H12.out.1, (hb.block S8 (Array.getElem?_eq_some_iff.1 H10.out.2).1).trans H10.out.2, H10.out.1.below hb⟩⟩
 clear hS11 HSTA
 have HRX : Box (x12.rangeAt S8 0 (scs s1) /\ x12.rangeAt S11 0 (scs s1)) := ⟨fun i v hv => by rw [cell_of_row _ _ _ _ _ _ H13.out.2.1, Nat.zero_add, <- HIS.out.2.2.2.2.2]; simpa using hv, fun i v hv => by rw [cell_of_row _ _ _ _ _ _ H13.out.1, Nat.zero_add, <- HIS.out.2.2.2.2.2]; simpa using hv⟩
 have c8 : x12.cell? ⟨S8, 1, none⟩ = some (.int .u64 1) := by
  rw [cell_of_row _ _ _ _ _ _ H13.out.2.1, <- HIS.out.2.2.2.2.2]
  have := HS1.out.2.2.1
  simp [scs, this]
 have HRM : Box (Calls Tryd.prog 12 #[.pointer (some ⟨J, 0, none⟩)] x12 fun e w' => e = .returned (.int .u64 1) /\ Below x12.heap.size x12 w') := ⟨by
  have := room_any H13.out.2.2.rd HJ2.out.2.1
  rw [HJ2.out.2.2.2.2, HJ2.out.2.2.1, HS1.out.2.2.1] at this
  exact this.mono fun e w' ⟨h1, m, h2⟩ => ⟨h1, by rw [h2]; exact below_drewN (Below.refl _ _) m⟩⟩
 obtain ⟨se, HSE⟩ : ∃ se, Box (ety j2 = se /\ se.start = 1 /\ OkS se) := ⟨_, ⟨rfl, by show (j2.st.start + j2.st.count) % j2.size = 1; rw [HJ2.out.2.2.2.2, HJ2.out.2.2.1, HS1.out.2.2.1, HS1.out.2.1], okS_ety j2 HJ2.out.2.1⟩⟩
 have HEM : Box (∀ x, Below x12.heap.size x12 x -> Calls Tryd.prog 13 #[.pointer (some ⟨J, 0, none⟩)] x fun e w' => e = .returned (.agg (sa se)) /\ Below x.heap.size x w') := ⟨fun x hx => by
  have := empty_any (H13.out.2.2.below hx).row HJ2.out.2.1
  rw [HSE.out.1] at this
  exact this⟩
 have HPE : Box (∀ x, Below x12.heap.size x12 x -> Calls Tryd.prog 18 #[.pointer (some ⟨D, 0, none⟩)] x fun e w' => e = .returned (.int .i64 1) /\ x = w') := ⟨fun x hx => by
  have := Disk.pending_cx (H13.out.2.2.below hx).cx
  rw [HS1.out.2.2.2.2] at this
  exact this⟩
 obtain ⟨AZ, HAZ⟩ : ∃ A, Box (u8s z32 = A) := ⟨_, ⟨rfl⟩⟩
 obtain ⟨LZ, HLZ⟩ : ∃ L, Box (lnk z32 0 [] = L /\ L.length = 32 /\ (!decide (L = z32)) = true) := ⟨_, ⟨rfl, length_dsha _, by simp [link_zero]⟩⟩
 have HLI : Box (∀ x, Below x12.heap.size x12 x -> Calls Tryd.prog 19 #[.agg AZ, .int .u32 0, .slice none 0 0] x fun e w' => e = .returned (.agg (u8s LZ)) /\ Below x.heap.size x w') := ⟨fun x hx => by
  have C := H13.out.2.2.below hx
  have := link_any z32 0 none 0 0 [] x (C.dig.below C.cx.bel) len_z32 byt_z32 ⟨by omega, by omega⟩ ⟨rfl, byt_nil, fun h => absurd h (by omega)⟩ (by omega) (by omega) (by omega)
  rw [HAZ.out, HLZ.out.1] at this
  exact this⟩
 have HFI : Box (∀ x, Below x12.heap.size x12 x -> Below w.heap.size w x) := ⟨fun x hx => below_to H13.out.2.2.cx.bel hx⟩
 have hse := HSE.out.2.1
 have HEQ : Box (eqS s1 s1 = true) := ⟨eqS_self s1⟩
 clear H6 H7 H7a H8 H9 H10 H11 H12 H5 H5g H4 H2 H1 HX HG
 have hb0 : Below x12.heap.size x12 x12 := Below.refl _ _
 go_wp2_with (first
  | (refine atLoad 26 ?_; refine wpList_runG (by rfl) _ _ (exec_load_mid 26 _ _ rfl Tryd.underlying26 rfl S8 0 rfl (scs s1) HIS.out.2.2.2.2.1 HRX.out.1) ?_)
  | (refine atLoad 26 ?_; refine wpList_runG (by rfl) _ _ (exec_load_mid 26 _ _ rfl Tryd.underlying26 rfl S11 0 rfl (scs s1) HIS.out.2.2.2.2.1 HRX.out.2) ?_)
  | (refine atBin .eql 26 ?_; refine wpList_runG (by rfl) _ _ (exec_eqSt _ _ _ rfl s1 s1 HS1.out.2.2.2.1 HS1.out.2.2.2.1 true HEQ.out rfl rfl) ?_)
  | (go_at_call 12; refine HRM.out.mono ?_; rintro e x13 ⟨rfl, hb⟩; have H14 : Box (Below x12.heap.size x12 x13) := ⟨hb⟩; clear hb)
  | (go_at_call 13; refine (HEM.out _ H14.out).mono ?_; rintro e x14 ⟨rfl, hb⟩; have H15 : Box (Below x12.heap.size x12 x14) := ⟨below_to H14.out hb⟩; clear hb)
  | (refine atField 26 ?_; refine wpList_runG (by rfl) _ _ (exec_fieldS0 _ rfl se rfl) ?_; (try rw [hse]))
  | (go_at_call 18; refine (HPE.out _ H15.out).mono ?_; rintro e x15 ⟨rfl, rfl⟩)
  | (refine atBuild 23 ?_; refine wpList_runG (by rfl) _ _ (exec_built 23 [] rfl [] rfl AZ (by rw [<- HAZ.out]; exact built_Z)) ?_)
  | (go_at_call 19; refine (HLI.out _ H15.out).mono ?_; rintro e x16 ⟨rfl, hb⟩; have H16 : Box (Below x12.heap.size x12 x16) := ⟨below_to H15.out hb⟩; clear hb)
  | (refine atBin .neq 23 ?_; refine wpList_runG (by rfl) _ _ (exec_neSum _ _ _ rfl LZ z32 HLZ.out.2.1 len_z32 true HLZ.out.2.2 rfl (by rw [HAZ.out]; rfl)) ?_))
 go_ret
 exact ⟨rfl, HFI.out _ H16.out⟩
end Go.Proofs.YthfobaeafapbnaaDoor
namespace Go.Proofs.YthfobaeafapbnaaDoor
open Go.ChangeShapes Go.WideShapes Go.RowKit Go.Proofs.YthfobaeafapbnaaDoor.Plain
theorem list_of {α : Type} (P : Nat -> α -> Prop) : ∀ n : Nat, (∀ i, i < n -> ∃ x, P i x) -> ∃ L : List α, L.length = n /\ ∀ i (hi : i < L.length), P i L[i]
 | 0, _ => ⟨[], rfl, fun i hi => by simp at hi⟩
 | n + 1, h => by
  obtain ⟨L, h1, h2⟩ := list_of P n (fun i hi => h i (by omega))
  obtain ⟨x, hx⟩ := h n (by omega)
  refine ⟨L ++ [x], by simp [h1], fun i hi => ?_⟩
  by_cases e : i < L.length
  ·rw [List.getElem_append_left e]
   exact h2 i e
  ·have : i = L.length := by simp at hi; omega
   subst this
   rw [List.getElem_append_right (Nat.le_refl _)]
   simp only [Nat.sub_self, List.getElem_cons_zero]
   rw [h1]
   exact hx
theorem cellsU : Tryd.prog.cellsOf 24 = 1 := by kernel_rfl
theorem cellsX : Tryd.prog.cellsOf 63 = 1 := by kernel_rfl
theorem cellsIm : Tryd.prog.cellsOf 65 = 2 := by kernel_rfl
def Byi (w : World) (m : Im) : Prop := Bytes w m.ba m.bl m.bs /\ N64 m.blk /\ m.bl <= m.bc /\ m.bc <= maxLen
theorem open_imageL {H : Type} {enc : TypeId × Value -> H} {W : World} {base : Nat} {held : Bool} {fuel : Nat} {cs : List Value} {x : DataW H × List MemPlace} (h : DataW.trod enc Tryd.prog W base (fun _ => true) held fuel 65 cs = some x) : ∃ m : Im, cs = imc m /\ Byi W m := by
 obtain ⟨xs, k, hk, hxy, hl, hxl, hf⟩ := DataW.trod_struct Tryd.underlying65 h
 rw [cellsIm] at hl
 have hxl2 : xs.length = 2 := hxl
 match xs, hxl2, cs, hl with
 | [y0, y1], _, [v0, v1], _ =>
  have g0 := hf 0 _ rfl
  have g1 := hf 1 _ rfl
  simp [cellsU, cellsX] at g0 g1
  obtain ⟨z, e0, _, wz⟩ := DataW.trod_int Tryd.underlying24 g0
  simp only [List.cons.injEq, and_true] at e0
  subst e0
  have hb := bounds_u64 wz
  obtain ⟨xa, xl, xc, X, rfl, hX, h1, h2⟩ : ∃ xa xl xc X, v1 = .slice xa xl xc /\ Bytes W xa xl X /\ xl <= xc /\ xc <= maxLen := by
   rcases open_ints Tryd.underlying63 Tryd.underlying5 (by kernel_rfl) g1 with ⟨hcs, _⟩ | ⟨x, l, c, zs, hcs, _, hl2, hm2, hz2, _, hcell2, hwz2⟩
   ·simp only [List.cons.injEq, and_true] at hcs
    subst hcs
    exact ⟨none, 0, 0, [], rfl, ⟨rfl, fun i => by simp, fun h => by omega⟩, by decide, by decide⟩
   ·simp only [List.cons.injEq, and_true] at hcs
    subst hcs
    have hr : IsRow .u8 W (some x) l c zs := .inr ⟨_, rfl, hl2, hm2, by simpa using hz2, hcell2, hwz2⟩
    exact ⟨_, _, _, _, rfl, hr.bytes, hl2, hm2⟩
  exact ⟨⟨z, xa, xl, xc, X⟩, rfl, hX, ⟨by show 0 <= z; omega, by show z <= 18446744073709551615; omega⟩, h1, h2⟩
theorem add_add' (b o i j : Nat) : ((⟨b, o, none⟩ : Addr).add i).add j = ⟨b, o + i + j, none⟩ := by
 rw [Addr.add_lit, Addr.add_lit]
theorem open_images {H : Type} {enc : TypeId × Value -> H} {W : World} {base : Nat} {held : Bool} {fuel : Nat} {a : Option Addr} {len cap : Nat} {x : DataW H × List MemPlace} (h : DataW.trod enc Tryd.prog W base (fun _ => true) held fuel 50 [.slice a len cap] = some x) : ∃ M : List Im, M.length = len /\ Imgs W a M /\ len <= maxLen := by
 rcases Go.Deep.open_slice Tryd.underlying50 h with ⟨hcs, _⟩ | ⟨ad, l, c, m, n, D, Pl, hcs, hb, hl, hm, hmm, hx, hi⟩
 ·simp only [List.cons.injEq, Value.slice.injEq, and_true] at hcs
  obtain ⟨rfl, rfl, rfl⟩ := hcs
  exact ⟨[], rfl, ⟨fun h => by simp at h, fun m hm => by simp at hm⟩, by decide⟩
 ·simp only [List.cons.injEq, Value.slice.injEq, and_true] at hcs
  obtain ⟨rfl, rfl, rfl⟩ := hcs
  simp only [if_true] at hmm
  subst hmm
  rw [cellsIm] at hi
  by_cases h0 : len = 0
  ·subst h0
   exact ⟨[], rfl, ⟨fun h => by simp at h, fun m hm => by simp at hm⟩, by decide⟩
  obtain ⟨b, o, rfl⟩ : ∃ b o, ad = ⟨b, o, none⟩ := by
   obtain ⟨cs', h1, _⟩ := hi 0 (by omega)
   obtain ⟨_, hlen, hcell⟩ := World.cells?_some h1
   have h2 := hcell 0 (by omega)
   obtain ⟨b, o, l⟩ := ad
   cases l with
   | none => exact ⟨b, o, rfl⟩
   | some l =>
    have h3 : (cs'[0]?).isSome = true := by simp [hlen]
    rw [<- h2] at h3
    simp [Addr.add, World.cell?] at h3
    split at h3 <;> simp at h3
  obtain ⟨M, hM, hP⟩ := list_of (fun i m => W.rangeAt b (o + i * 2) (imc m) /\ Byi W m /\ b < W.heap.size) len (fun i hil => by
   obtain ⟨cs', h1, h2⟩ := hi i (by omega)
   obtain ⟨m, rfl, ok⟩ := open_imageL h2
   obtain ⟨_, hlen, hcell⟩ := World.cells?_some h1
   have hr : W.rangeAt b (o + i * 2) (imc m) := fun j v hv => by
    have hj : j < 2 := (List.getElem?_eq_some_iff.1 hv).1
    have h3 := hcell j hj
    rw [add_add', hv] at h3
    exact h3
   exact ⟨m, hr, ok, block_lt (hr 0 _ rfl)⟩)
  refine ⟨M, hM, ⟨fun hp => ⟨b, o, rfl, (hP 0 hp).2.2, fun i hi' => (hP i hi').1⟩, fun m hm => ?_⟩, Nat.le_trans hl hm⟩
  obtain ⟨i, hi', rfl⟩ := List.getElem_of_mem hm
  exact (hP i hi').2.1
def Bools (w : World) (a : Option Addr) (len : Nat) (K : List Bool) : Prop := K.length = len /\ (0 < len -> ∃ b off, a = some ⟨b, off, none⟩ /\ b < w.heap.size /\ ∀ i, i < len -> w.cell? ⟨b, off + i, none⟩ = some (.bool (K.getD i false)))
theorem Bools.below {w w' : World} {a : Option Addr} {len : Nat} {K : List Bool} (h : Bools w a len K) (hb : Below w.heap.size w w') : Bools w' a len K := by
 refine ⟨h.1, fun h0 => ?_⟩
 obtain ⟨b, off, rfl, hbb, hc⟩ := h.2 h0
 exact ⟨b, off, rfl, Nat.lt_of_lt_of_le hbb hb.size, fun i hi => (hb.cell hbb).trans (hc i hi)⟩
theorem bools_none (w : World) : Bools w none 0 [] := ⟨rfl, fun h => by omega⟩
theorem bools_fn {w : World} {x : Addr} {len cap : Nat} (B : Nat -> Bool) (hl : len <= cap) (hc : ∀ i, i < cap -> w.cell? (x.add i) = some (.bool (B i))) : Bools w (some x) len ((List.range len).map B) := by
 refine ⟨by simp, fun h0 => ?_⟩
 obtain ⟨b, o, l⟩ := x
 cases l with
 | none =>
  have h1 := hc 0 (by omega)
  rw [Addr.add_lit] at h1
  refine ⟨b, o, rfl, World.block_lt_of_cell? w _ h1, fun i hi => ?_⟩
  have h2 := hc i (by omega)
  rw [Addr.add_lit] at h2
  rw [h2]
  simp [List.getD, hi]
 | some l =>
  have h1 := hc 0 (by omega)
  simp [Addr.add, World.cell?] at h1
  split at h1 <;> cases h1
end Go.Proofs.YthfobaeafapbnaaDoor
