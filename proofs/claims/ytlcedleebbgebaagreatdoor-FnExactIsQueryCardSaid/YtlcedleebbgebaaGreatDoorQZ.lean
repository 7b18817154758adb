/-
  Merged by program: Isq.
-/
import Derived.Test.YtlcedleebbgebaaGreatDoorQ49
import Derived.Test.YtlcedleebbgebaaGreatDoorCards
import Derived.Test.YtlcedleebbgebaaGreatDoorTie
set_option maxRecDepth 100000
set_option linter.all false
namespace Go.Proofs.YtlcedleebbgebaaGreatDoor
open Go.ChangeShapes Go.WideShapes Go.ChangeAt Go.RowKit
theorem Zadg:varsRowed Tryz.prog Rows.fnExactIsQuerySpec.vars=true:=by kernel_rfl
theorem Zadf:∀ t∈Tryz.f4.params.toList,Tryz.prog.readableRec t=true/\t < Tryz.prog.types.size:=by
 rw [Tryz.params4]
 intro t ht
 simp only [List.mem_cons,List.not_mem_nil,or_false] at ht
 rcases ht with rfl|rfl
 ·exact ⟨by kernel_rfl,of_decide_eq_true (by kernel_rfl)⟩
 ·exact ⟨by kernel_rfl,of_decide_eq_true (by kernel_rfl)⟩
theorem Zadj (os:Os):laidMet Tryz.prog Rows.fnExactIsQueryRow.laid ((Zno os).forCall (fun _ _=>0) ⟨#[],#[.agg #[.slice none 0 0],.agg #[.int .i64 0,.string ⟨#[]⟩,.int .i64 0,.int .i64 0,.slice none 0 0,.slice none 0 0,.slice none 0 0,.slice none 0 0]],[]⟩).memory:=
 laidMet_of_run' 8 (by kernel_rfl) (by kernel_rfl)
theorem Zwu (os:Os) {H:Type}(enc:TypeId×Value->H):∃ places,DataW.whole enc Tryz.prog ((Zno os).forCall (fun _ _=>0) ⟨#[],#[.agg #[.slice none 0 0],.agg #[.int .i64 0,.string ⟨#[]⟩,.int .i64 0,.int .i64 0,.slice none 0 0,.slice none 0 0,.slice none 0 0,.slice none 0 0]],[]⟩).memory Tryz.f4.params.toList Rows.fnExactIsQuerySpec.vars false (#[.agg #[.slice none 0 0],.agg #[.int .i64 0,.string ⟨#[]⟩,.int .i64 0,.int .i64 0,.slice none 0 0,.slice none 0 0,.slice none 0 0,.slice none 0 0]]:Array Value).toList 8=some ([.agg [.nil],.agg [.lit (.int .i64 0),.lit (.string []),.lit (.int .i64 0),.agg [.lit (.int .i64 0),.nil,.nil],.nil,.nil]],[.held (enc (215,.pointer (some ⟨Zack,0,none⟩))),Rows.laid_loop_example_g00587_impl_termArities],places):=
 ⟨MemPlace.row ⟨0,0,none⟩ 1 ++ [] ++ (MemPlace.row ⟨1,0,none⟩ 17 ++ []),by kernel_rfl⟩
theorem Ztp (os:Os)(started:os.Started)(H:Type)(enc:TypeId×Value->H)(F:Stop.Interp) :
  ReturnsInHanded {} Tryz.checked os 4 .any ((OpenSpec.ofChange Rows.fnExactIsQuerySpec).preRow enc Tryz.prog Tryz.f4 Rows.fnExactIsQueryRow.domain false Rows.fnExactIsQueryRow.laid) (((OpenSpec.ofChange Rows.fnExactIsQuerySpec).at F).post enc Tryz.prog Tryz.f4 false true false false):=by
 obtain ⟨places,hx⟩:=Zwu os enc;refine returnsInHanded_of_row (C:=Tryz.checked) (s:=OpenSpec.ofChange Rows.fnExactIsQuerySpec) Zagi started (by kernel_rfl) Tryz.func4
  (witness_row_at (enc:=enc) (C:=Tryz.checked) false (Zno os) #[.agg #[.slice none 0 0],.agg #[.int .i64 0,.string ⟨#[]⟩,.int .i64 0,.int .i64 0,.slice none 0 0,.slice none 0 0,.slice none 0 0,.slice none 0 0]] rfl (by kernel_rfl) (by kernel_rfl) (by kernel_rfl)
   (OpenSpec.preRow_of_cond 8 hx (by kernel_rfl) (fun k hk=>by cases hk) (by kernel_rfl) (Zadj os))) ?_
 intro W base args ds gs before hval0 hW _ _ _ hL _ _
 have hval:∀ (j:Nat) t v,Tryz.f4.params[j]?=some t->args[j]?=some v->Value.okWide Tryz.prog W .any base t v:=hval0;have hW':=hW;obtain ⟨p,q,hA0,hV,rfl,_,_⟩:=hW;have hA:DataW.TrodAll enc Tryz.prog W 0 (fun _=>true) true Tryz.f4.params.toList args.toList ds p:=hA0;rw [Tryz.params4] at hA hval;obtain ⟨v0,v1,d0,d1,p0,p1,rfl,rfl,rfl,h0,h1⟩:=trodAll_two hA;obtain ⟨g0,t9,cs9,f9,d9,p9,g8,t8,cs8,f8,d8,p8,rfl,_⟩:=trodVars_two (show DataW.TrodVars enc Tryz.prog W (fun _=>true) ["loop.example/g00587/impl.errNoType", "loop.example/g00587/impl.termArities"] gs q from hV);obtain ⟨t0,cs0,rfl,hr0⟩:=Zaea (hval 0 24 v0 rfl rfl) h0;obtain ⟨t1,cs1,rfl,hr1⟩:=Zaeb (hval 1 32 v1 rfl rfl) h1;have hvo:=Zpn (show laidMet Tryz.prog [("loop.example/g00587/impl.termArities",Rows.laid_loop_example_g00587_impl_termArities),("loop.example/g00587/impl.errNoType",Rows.laid_loop_example_g00587_impl_errNoType)] W from hL);refine (Zadi t0 cs0 t1 cs1 W hr0 hr1 (fun _ hB=>hvo.keep hB)).mono fun e W' ⟨he,hb⟩=>?_
 subst he;exact ⟨_,rfl,Zxd Zaep Zadf rfl Tryz.underlying4 Zadg ⟨rfl,rfl,rfl⟩ hW' hb⟩
theorem Zaaf:Rows.FnExactIsQuerySaid:=
 OpenClaim.holds_of_cond 4 Tryz.f4 rfl rfl rfl rfl rfl rfl rfl ⟨rfl,rfl,rfl,rfl,rfl⟩ rfl rfl rfl rfl rfl (by kernel_rfl) Tryz.func4 (by kernel_rfl)
  (of_decide_eq_true (by kernel_rfl)) (by unfold Func.isWrapper;first | (rw [if_pos (by decide +kernel)];kernel_rfl) | (rw [if_neg (by decide +kernel)];exact ⟨rfl,rfl⟩))
  (fun os started H enc _ F=>by rw [OpenClaim.pre_eq_preRow];exact Ztp os started H enc F)
theorem Zwt (f:FuncId)(fn:Func)(hf:Tryz.pinned.checked.prog.funcNamed "loop.example/g00587/laws.FnExactIsQuery" =some f) (hfn:Tryz.pinned.checked.prog.funcs[f]?=some fn) :
  true=Tryz.pinned.checked.prog.looks []/\∀ (j:Nat) t,fn.params[j]?=some t->Tryz.pinned.checked.prog.wantsStandIn t=false:=by
 obtain rfl:f=4:=Option.some.inj ((show Tryz.prog.funcNamed "loop.example/g00587/laws.FnExactIsQuery" =some 4 by kernel_rfl).symm.trans hf) |>.symm
 obtain rfl:fn=Tryz.f4:=(Option.some.inj (Tryz.func4.symm.trans hfn)).symm;refine ⟨by kernel_rfl,fun j t ht=>?_⟩;rw [Tryz.params4] at ht;have hm:=Array.mem_of_getElem? ht;simp only [List.mem_toArray,List.mem_cons,List.not_mem_nil,or_false] at hm
 rcases hm with rfl|rfl
 ·exact (show Tryz.prog.wantsStandIn 24=false by kernel_rfl)
 ·exact (show Tryz.prog.wantsStandIn 32=false by kernel_rfl)
theorem isq_card:Rows.FnExactIsQueryCardSaid:=
 Claim7.holds_tied_plain_at .later [] _ _ _ _ Zaaf (fun _ h=>by cases h) (by kernel_rfl) (fun _ h=>by cases h) fnExactIsQuery_row_tie rfl ⟨rfl,rfl⟩ (by kernel_rfl) rfl Zwt (by kernel_rfl)
end Go.Proofs.YtlcedleebbgebaaGreatDoor
