/-
  ReplayLoads: what was appended to a journal, with one byte of its disk tampered with or not, by any key, at any places, of any state, with the disk up or stopped, is loaded by the code as the document's answer says, or refused alike; the tables of digest and cipher are as their initialisers lay them.
-/
import Derived.Test.YtjejnlebpcjidaaGreatDoorQ28
import Derived.Test.YtjejnlebpcjidaaGreatDoorQ44
namespace Go.Proofs.YtjejnlebpcjidaaGreatDoor.replayLoads
open Go.ChangeShapes Go.WideShapes Go.ChangeAt Go.RowKit Go.Proofs.YtjejnlebpcjidaaGreatDoor.Plain
open Go.ChangeMaps (open_string shut_string)
set_option linter.unusedVariables false
set_option maxRecDepth 100000
set_option maxRecDepth 100000
theorem contract (H:Type) (enc:TypeId × Value → H) (W:World) (base:Nat) (args:Array Value) (ds gs:List (DataW H)) (before:List MemPlace)
    (hval:∀(j:Nat) t v,Tryz.f3.params[j]?=some t → args[j]?=some v → Value.okWide Tryz.prog W .any base t v)
    (hW:DataW.Whole enc Tryz.prog Tryz.f3.params.toList Rows.replayLoadsSpec.vars false W args.toList ds gs before) (hL:laidMetH Tryz.prog Rows.replayLoadsRow.laid W):
    Calls Tryz.prog 3 args W fun e W'=>∃v,e=.returned v ∧ Rows.replayLoadsSpec.post enc Tryz.prog Tryz.f3 false true false false W args v W':=by
  obtain ⟨hT,hT2⟩:=z2g hL
  have hW':=hW
  obtain ⟨p,q,hA0,hV,rfl,hfz,hnd⟩:=hW
  have hA:DataW.TrodAll enc Tryz.prog W 0 (fun _=>true) true Tryz.f3.params.toList args.toList ds p:=hA0
  rw [Tryz.params3] at hA hval
  obtain ⟨v0,vs0,d0,ds0,p0,q0,hargs,rfl,rfl,h0,r0⟩:=trodAll_cons hA
  obtain ⟨v1,vs1,d1,ds1,p1,q1,rfl,rfl,rfl,h1,r1⟩:=trodAll_cons r0
  obtain ⟨v2,vs2,d2,ds2,p2,q2,rfl,rfl,rfl,h2,r2⟩:=trodAll_cons r1
  obtain ⟨v3,vs3,d3,ds3,p3,q3,rfl,rfl,rfl,h3,r3⟩:=trodAll_cons r2
  obtain ⟨v4,vs4,d4,ds4,p4,q4,rfl,rfl,rfl,h4,r4⟩:=trodAll_cons r3
  obtain ⟨v5,vs5,d5,ds5,p5,q5,rfl,rfl,rfl,h5,r5⟩:=trodAll_cons r4
  obtain ⟨v6,vs6,d6,ds6,p6,q6,rfl,rfl,rfl,h6,r6⟩:=trodAll_cons r5
  obtain ⟨v7,vs7,d7,ds7,p7,q7,rfl,rfl,rfl,h7,r7⟩:=trodAll_cons r6
  obtain ⟨rfl,rfl,rfl⟩:=trodAll_nil r7
  obtain rfl:args=#[v0,v1,v2,v3,v4,v5,v6,v7]:=by cases args;simp_all
  obtain ⟨rfl,rfl⟩:=trodVars_none hV
  have k0:=h0
  have lt0:∀x∈p0,x.block<W.heap.size:=by obtain ⟨m,hm⟩:=k0;exact DataW.trod_lt m _ _ _ hm
  obtain ⟨D0,rfl,hl0,hD0⟩:=open_sum (hval 0 23 v0 rfl rfl) h0
  obtain ⟨a1,rfl,rfl,rfl,w1⟩:=open_int Tryz.underlying5 (hval 1 5 v1 rfl rfl) h1
  obtain ⟨a2,len2,cap2,rfl⟩:=okWide_slice Tryz.underlying24 (hval 2 24 v2 rfl rfl)
  have k2:=h2
  have lt2:∀x∈p2,x.block<W.heap.size:=by obtain ⟨m,hm⟩:=k2;exact DataW.trod_lt m _ _ _ hm
  obtain ⟨X2,rfl,w2,y2⟩:∃X:List Sx,X.length=len2 ∧ Igss W a2 X ∧ len2 ≤ maxLen:=by obtain ⟨fuel,hf⟩:=h2;exact z3g hf
  have k3:=h3
  have lt3:∀x∈p3,x.block<W.heap.size:=by obtain ⟨m,hm⟩:=k3;exact DataW.trod_lt m _ _ _ hm
  obtain ⟨s3,rfl,hs3⟩:=z7f (hval 3 27 v3 rfl rfl) h3
  obtain ⟨a4,rfl,rfl,rfl,w4⟩:=open_int Tryz.underlying5 (hval 4 5 v4 rfl rfl) h4
  obtain ⟨a5,rfl,rfl,rfl,w5⟩:=open_int Tryz.underlying3 (hval 5 3 v5 rfl rfl) h5
  obtain ⟨a6,rfl,rfl,rfl,w6⟩:=open_int Tryz.underlying3 (hval 6 3 v6 rfl rfl) h6
  obtain ⟨a7,rfl,rfl,rfl,w7⟩:=open_int Tryz.underlying5 (hval 7 5 v7 rfl rfl) h7
  clear hA0
  refine (q7y D0 a1 a2 cap2 X2 s3 a4 a5 a6 a7 W hT hT2 hl0 hD0 w1 w2 y2 hs3 w4 w5 w6 w7).mono fun e W' ⟨he,bel⟩=>?_
  subst he
  exact ⟨_,rfl,_,_,_,[],_,[],hW',trodAll_mk1 (shut_bool Tryz.underlying4 _),(trodAll_cons_mk (Below.trod laidOut (by kernel_rfl) (of_decide_eq_true (by kernel_rfl)) k0 bel lt0) (trodAll_cons_mk (shut_int Tryz.underlying5 w1) (trodAll_cons_mk (Below.trod laidOut (by kernel_rfl) (of_decide_eq_true (by kernel_rfl)) k2 bel lt2) (trodAll_cons_mk (Below.trod laidOut (by kernel_rfl) (of_decide_eq_true (by kernel_rfl)) k3 bel lt3) (trodAll_cons_mk (shut_int Tryz.underlying5 w4) (trodAll_cons_mk (shut_int Tryz.underlying3 w5) (trodAll_cons_mk (shut_int Tryz.underlying3 w6) (trodAll_cons_mk (shut_int Tryz.underlying5 w7) trodAll_mk0)))))))),rfl,bel.frame _,fun h=>by cases h⟩
theorem laid_met (os:Os):laidMet Tryz.prog Rows.replayLoadsRow.laid ((laidWorld os).forCall (fun _ _=>0) ⟨#[],#[.agg (u8s (List.replicate 32 0)),.int .u8 0,.slice none 0 0,.agg (sa zs),.int .u8 0,.int .i64 0,.int .i64 0,.int .u8 0],[]⟩).memory:=
  laidMet_of_run' 8 (by kernel_rfl) (by kernel_rfl)
theorem reads (os:Os) {H:Type} (enc:TypeId × Value → H):∃ds places,DataW.whole enc Tryz.prog ((laidWorld os).forCall (fun _ _=>0) ⟨#[],#[.agg (u8s (List.replicate 32 0)),.int .u8 0,.slice none 0 0,.agg (sa zs),.int .u8 0,.int .i64 0,.int .i64 0,.int .u8 0],[]⟩).memory Tryz.f3.params.toList Rows.replayLoadsSpec.vars false #[Value.agg (u8s (List.replicate 32 0)),Value.int .u8 0,Value.slice none 0 0,Value.agg (sa zs),Value.int .u8 0,Value.int .i64 0,Value.int .i64 0,Value.int .u8 0].toList 8=some (ds,[],places):=
  ⟨[.agg (List.replicate 32 (.lit (.int .u8 0))),.lit (.int .u8 0),.nil,.agg [.lit (.int .u64 0),.lit (.int .u64 0),.agg (List.replicate 32 (.lit (.int .u8 0)))],.lit (.int .u8 0),.lit (.int .i64 0),.lit (.int .i64 0),.lit (.int .u8 0)],[],by kernel_rfl⟩
set_option maxRecDepth 100000 in
theorem lifted (os:Os) (started:os.Started) (H:Type) (enc:TypeId × Value → H) (F:Stop.Interp):
    ReturnsInHanded {} Tryz.checked os 3 .any ((OpenSpec.ofChange Rows.replayLoadsSpec).preRow enc Tryz.prog Tryz.f3 Rows.replayLoadsRow.domain false Rows.replayLoadsRow.laid) (((OpenSpec.ofChange Rows.replayLoadsSpec).at F).post enc Tryz.prog Tryz.f3 false true false false):=by
  obtain ⟨ds,places,hx⟩:=reads os enc
  refine returnsInHanded_of_row (C:=Tryz.checked) (s:=OpenSpec.ofChange Rows.replayLoadsSpec) own started (by kernel_rfl) Tryz.func3
    (witness_row_at (enc:=enc) (C:=Tryz.checked) false (laidWorld os) #[.agg (u8s (List.replicate 32 0)),.int .u8 0,.slice none 0 0,.agg (sa zs),.int .u8 0,.int .i64 0,.int .i64 0,.int .u8 0] rfl (by kernel_rfl) (by kernel_rfl) (by kernel_rfl)
      (OpenSpec.preRow_of_cond 8 hx (by kernel_rfl) (fun k hk=>by cases hk) (by kernel_rfl) (laid_met os))) ?_
  intro W base args ds gs before hval hW _ _ _ hL _ _
  exact contract H enc W base args ds gs before hval hW hL
theorem said:Rows.ReplayLoadsSaid:=
  OpenClaim.holds_of_cond 3 Tryz.f3 rfl rfl rfl rfl rfl rfl rfl ⟨rfl,rfl,rfl,rfl,rfl⟩ rfl rfl rfl rfl rfl (by kernel_rfl) Tryz.func3 (by kernel_rfl)
    (of_decide_eq_true (by kernel_rfl)) (by unfold Func.isWrapper;first | (rw [if_pos (by decide +kernel)];kernel_rfl) | (rw [if_neg (by decide +kernel)];exact ⟨rfl,rfl⟩))
    (fun os started H enc _ F=>by rw [OpenClaim.pre_eq_preRow];exact lifted os started H enc F)
theorem plain (f : FuncId) (fn : Func) (hf : Tryz.pinned.checked.prog.funcNamed "reliquary/reliquarylaw14.ReplayLoads" = some f) (hfn : Tryz.pinned.checked.prog.funcs[f]? = some fn) :
    false=Tryz.pinned.checked.prog.looks [] ∧ ∀(j:Nat) t,fn.params[j]?=some t → Tryz.pinned.checked.prog.wantsStandIn t=false:=by
  obtain rfl : f = 3 := Option.some.inj ((show Tryz.prog.funcNamed "reliquary/reliquarylaw14.ReplayLoads" = some 3 by kernel_rfl).symm.trans hf) |>.symm
  obtain rfl:fn=Tryz.f3:=(Option.some.inj (Tryz.func3.symm.trans hfn)).symm
  refine ⟨by kernel_rfl,fun j t ht=>?_⟩
  rw [Tryz.params3] at ht
  have hm:t∈[23,5,24,27,5,3,3,5]:=by simpa using Array.mem_of_getElem? ht
  have hall:([23,5,24,27,5,3,3,5].all fun u=>!Tryz.prog.wantsStandIn u)=true:=by kernel_rfl
  exact (show Tryz.prog.wantsStandIn t=false by simpa using List.all_eq_true.1 hall t hm)
end Go.Proofs.YtjejnlebpcjidaaGreatDoor.replayLoads
namespace Go.Proofs.YtjejnlebpcjidaaGreatDoor
theorem replayLoads_holds:Rows.ReplayLoadsCardSaid:=
  Claim7.holds_tied_plain_at .later [] _ _ _ _ replayLoads.said (fun _ h=>by cases h) (by kernel_rfl) (fun _ h=>by cases h) replayLoads_row_tie rfl ⟨rfl,rfl⟩ (by kernel_rfl) rfl replayLoads.plain (by kernel_rfl)
#print axioms replayLoads_holds
end Go.Proofs.YtjejnlebpcjidaaGreatDoor
