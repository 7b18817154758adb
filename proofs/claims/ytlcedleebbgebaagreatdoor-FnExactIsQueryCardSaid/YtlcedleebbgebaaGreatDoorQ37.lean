/-
  Merged by program: TypF9.
-/
import Derived.Test.YtlcedleebbgebaaGreatDoorQ22
set_option maxRecDepth 100000
set_option maxHeartbeats 32000000
set_option linter.all false
namespace Go.Proofs.YtlcedleebbgebaaGreatDoor
open Go.RowKit
theorem Zafe (xs:Sc)(c:Cx)(a:TeA)(kse:List Te)(t0:Ty)(t1:Ty)(A:Option Addr)(d:Nat)(fp:List Nat)(w:World)(cs:List Value)(hk:a.kind=9)(h:RTe w (.node a kse) cs)(ho:OL kTy 38 w [t0,t1] (.slice A 2 d) fp)(hw:∀ t∈[t0,t1],wt t<=1048576):Calls Tryz.prog 103 #[.agg cs.toArray,.slice A 2 d] w (Zbe fp (Zac xs c a [t0,t1]) w):=by
 obtain ⟨TL,tc,TA,td,LE,lc0,KA,kd,rfl,hT,hL,hok,_,_,_⟩:=h.out;obtain ⟨kl,hkl⟩:∃ kl,kse.length=kl:=⟨_,rfl⟩;rw [hkl];obtain ⟨W1,hW1⟩:∃ W1,(w.alloc (.cells #[.int .i64 a.kind,.string a.name,.int .i64 a.num,.int .i64 a.type.top.kind,.slice TL a.type.top.labels.length tc,.slice TA a.type.kids.length td,.slice LE a.labels.length lc0,.slice KA kl kd] 49)).alloc (.cells #[.int .i64 0,.slice none 0 0,.slice none 0 0] 38)=W1:=⟨_,rfl⟩;obtain ⟨H,hH⟩:∃ H,w.heap.size=H:=⟨_,rfl⟩;have bt:Box8 W1 H 49 (.int .i64 a.kind) (.string a.name) (.int .i64 a.num) (.int .i64 a.type.top.kind) (.slice TL a.type.top.labels.length tc) (.slice TA a.type.kids.length td) (.slice LE a.labels.length lc0) (.slice KA kl kd):=by rw [<-hW1,<-hH];exact (Box8.new w 49 (.int .i64 a.kind) (.string a.name) (.int .i64 a.num) (.int .i64 a.type.top.kind) (.slice TL a.type.top.labels.length tc) (.slice TA a.type.kids.length td) (.slice LE a.labels.length lc0) (.slice KA kl kd)).alloc _
 have br:Box3 W1 (H+1) 38 (.int .i64 0) (.slice none 0 0) (.slice none 0 0):=by
  rw [<-hW1,<-hH]
  have:=Box3.new (w.alloc (.cells #[.int .i64 a.kind,.string a.name,.int .i64 a.num,.int .i64 a.type.top.kind,.slice TL a.type.top.labels.length tc,.slice TA a.type.kids.length td,.slice LE a.labels.length lc0,.slice KA kl kd] 49)) 38 (.int .i64 0) (.slice none 0 0) (.slice none 0 0)
  simpa using this
 have hb1:Below w.heap.size w W1:=by rw [<-hW1];exact (bQ.alloc nQ _).alloc (by simp) _
 have hs1:W1.heap.size=H+2:=by rw [<-hW1,<-hH];simp
 have HB1:=hQ hb1;have HS1:=hQ hs1;have HH:=hQ hH;have HW1:=hQ hW1;have BR:=hQ br;have BT:=hQ bt;have HN:Hid (Zac xs c a [t0,t1]=ifAny (isBag t0 && same t0 t1) t0):=hQ (by unfold Zac;(iterate 8 rw [if_neg (by rw [hk];decide)]);rw [if_pos hk];try rfl);have x0:=bt.c0;have x1:=bt.c1;have x6:=bt.c6;obtain ⟨g,rfl,hgf,hat⟩:=Zgr ho (by simp);obtain ⟨L0,B0,l0,b0,f0,y00,y01,y02,o0,hf0,hg0⟩:=hat 0 (by simp);simp only [List.getElem_cons_zero,List.getElem_cons_succ] at o0 y00 y01 y02;have up0:∀ (W:World),Below w.heap.size w W->W.cell? ⟨g,0,none⟩=some (.int .i64 t0.top.kind)/\W.cell? ⟨g,1,none⟩=some (.slice L0 t0.top.labels.length l0)/\W.cell? ⟨g,2,none⟩=some (.slice B0 t0.kids.length b0):=fun W hB=>⟨uQ hB y00,uQ hB y01,uQ hB y02⟩
 obtain ⟨p00,p01,p02⟩:=up0 W1 hb1;obtain ⟨j00,j01,j02⟩:=up0 W1 hb1;rw [<-hW1] at j00 j01 j02;have O0:=hQ o0;have OF0:=hQ hf0;have OB0:=hQ (Zbi o0);have R0:=hQ (fun (W:World) (hB:Below w.heap.size w W)=>(OTy.reads o0).keep hB);have UP0:=hQ up0;obtain ⟨L1,B1,l1,b1,f1,y10,y11,y12,o1,hf1,hg1⟩:=hat 1 (by simp);simp only [List.getElem_cons_zero,List.getElem_cons_succ] at o1 y10 y11 y12;have up1:∀ (W:World),Below w.heap.size w W->W.cell? ⟨g,3,none⟩=some (.int .i64 t1.top.kind)/\W.cell? ⟨g,4,none⟩=some (.slice L1 t1.top.labels.length l1)/\W.cell? ⟨g,5,none⟩=some (.slice B1 t1.kids.length b1):=fun W hB=>⟨uQ hB y10,uQ hB y11,uQ hB y12⟩
 obtain ⟨p10,p11,p12⟩:=up1 W1 hb1;obtain ⟨j10,j11,j12⟩:=up1 W1 hb1;rw [<-hW1] at j10 j11 j12;have O1:=hQ o1;have OF1:=hQ hf1;have OB1:=hQ (Zbi o1);have R1:=hQ (fun (W:World) (hB:Below w.heap.size w W)=>(OTy.reads o1).keep hB);have UP1:=hQ up1;clear hat hgf;have HEQ:=hQ (Zil t0 t1 W1.drew _ _ (R0.out W1.drew hb1.drew) (R1.out W1.drew hb1.drew));have BRd:=hQ (show Box3 W1.drew (H+1) 38 (.int .i64 0) (.slice none 0 0) (.slice none 0 0) from br);have HBd:=hQ hb1.drew;have r0:=BR.out.c0;have r1:=BR.out.c1;have r2:=BR.out.c2;have s0:=BR.out.free 0;have s1:=BR.out.free 1;have s2:=BR.out.free 2;obtain ⟨kq,hkq⟩:∃ kq,t0.top.kind=kq:=⟨_,rfl⟩;have HKQ:=hQ hkq;rw [hkq] at p00 j00 UP0 HEQ;clear hkq;have hgn:g≠H+1:=fun e=>by have:=World.block_lt_of_cell? w _ y00;have hg2:g < w.heap.size:=this;omega
 have hgm:¬ H+1=g:=fun e=>hgn e.symm
 rw [hk] at HW1 x0 j00 j01 j02 j10 j11 j12 ⊢;clear y00 y01 y02 o0 hf0 hg0 up0 y10 y11 y12 o1 hf1 hg1 up1;clear hk h ho hw hW1 bt br hb1 hs1 hT hL hok hkl;go_enter Tryz.func103,Tryz.ntmps103;go_wp2_with fail;rw [HW1.out];go_wp2_with fail;by_cases hq:kq=4
 ·subst hq
  have HV:Hid ((isBag t0 && same t0 t1)=same t0 t1):=hQ (by unfold isBag;rw [HKQ.out];rfl);generalize same t0 t1=bb at *
  go_region_law (first
   | (go_simp;refine HEQ.out.mono ?_;rintro e w3 ⟨rfl,hb3⟩;have HB3:=hQ (HBd.out.trans (hb3.mono HBd.out.size));have BR3:=hQ (BRd.out.under hb3 BRd.out.lt);obtain ⟨c00,c01,c02⟩:=UP0.out w3 HB3.out;obtain ⟨c10,c11,c12⟩:=UP1.out w3 HB3.out;have z0:=BR3.out.c0;have z1:=BR3.out.c1;have z2:=BR3.out.c2;have k0:=BR3.out.free 0;have k1:=BR3.out.free 1;have k2:=BR3.out.free 2;clear hb3))
  all_goals (
   clear r0 r1 r2 s0 s1 s2;have r0:=BR3.out.c0;have r1:=BR3.out.c1;have r2:=BR3.out.c2;have s0:=BR3.out.free 0;have s1:=BR3.out.free 1;have s2:=BR3.out.free 2;have HMM:Hid (∀ U:World,w3.grownBy U (some (H+1))->Zbe fp (Zac xs c a [t0,t1]) w (.returned (.tuple #[.agg #[.int .i64 4,.slice L0 t0.top.labels.length l0,.slice B0 t0.kids.length b0],.bool bb])) U):=hQ (fun U hU=>by
    have hm:=Zgc (b:=bb) (G:=H+1) O0.out OF0.out OB0.out HB3.out (by have:=HH.out;omega) hU;rw [HN.out,HV.out];rw [HKQ.out] at hm;exact hm)
   go_wp2_with fail
   generalize hU:((w3.setCell ⟨H+1,0,none⟩ (.int .i64 4)).setCell ⟨H+1,1,none⟩ (.slice L0 t0.top.labels.length l0)).setCell ⟨H+1,2,none⟩ (.slice B0 t0.kids.length b0)=U;have hgU:w3.grownBy U (some (H+1)):=by rw [<-hU];exact Zaa (Zaa (Zaa (gQ) _) _) _
   have u1:Box3 U (H+1) 38 (.int .i64 4) (.slice L0 t0.top.labels.length l0) (.slice B0 t0.kids.length b0):=by
    rw [<-hU];exact ((BR3.out.set0 _).set1 _).set2 _
   have HRR:=hQ (HMM.out U hgU);have tt0:=u1.c0;have tt1:=u1.c1;have tt2:=u1.c2;clear hU hgU u1 r0 r1 r2 s0 s1 s2 z0 z1 z2 k0 k1 k2;exact bodyPost_ret (v:=.tuple #[.agg #[.int .i64 4,.slice L0 t0.top.labels.length l0,.slice B0 t0.kids.length b0],.bool bb]) (by simp [results,Tryz.results103,go_sem,tt0,tt1,tt2]) rfl HRR.out)
 ·have HV:Hid ((isBag t0 && same t0 t1)=false):=hQ (by unfold isBag;rw [HKQ.out,decide_eq_false hq];rfl)
  have hqb:(kq == 4)=false:=by simpa using hq
  refine wp_region_noPanic ?_;refine wp_region_held_drew (S:=(fun W=>W.cell? ⟨g,0,none⟩=some (.int .i64 kq)/\W.cell? ⟨g,1,none⟩=some (.slice L0 t0.top.labels.length l0)/\W.cell? ⟨g,2,none⟩=some (.slice B0 t0.kids.length b0))) (by kernel_rfl) ?_ (fun hHeld=>?_)
  ·(try dsimp only);(refine ⟨?_,?_,?_⟩ <;> assumption)
  refine wpAnyH_take (i:=0) (oi:=⟨some 50,.move (.tmp 1),36, "l10_typing.go:90",#[],none⟩) (v:=?v0) rfl (by kernel_rfl) (by kernel_rfl) (by kernel_rfl) (fun _ _ _ h=>h) (Or.inl ⟨by rfl,?y0⟩) (by assumption) ?r0
  case y0=>(intro w' hSw;(try dsimp only at hSw);go_simp;all_goals with_reducible rfl)
  try simp only [Act.put,sQ,tQ,vQ]
  refine wpAnyH_take (i:=1) (oi:=⟨some 51,.indexAddr 36 (.tmp 50) (.const (.int .i64 0)),0, "l10_typing.go:90",#[⟨0,.data⟩],none⟩) (v:=?v1) rfl (by kernel_rfl) (by kernel_rfl) (by kernel_rfl) (fun _ _ _ h=>h) (Or.inl ⟨by rfl,?y1⟩) (by assumption) ?r1
  case y1=>(intro w' hSw;(try dsimp only at hSw);go_simp;all_goals with_reducible rfl)
  try simp only [Act.put,sQ,tQ,vQ]
  refine wpAnyH_take (i:=2) (oi:=⟨some 52,.load 38 (.tmp 51),38, "l10_typing.go:90",#[⟨1,.data⟩],none⟩) (v:=?v2) rfl (by kernel_rfl) (by kernel_rfl) (by kernel_rfl) (fun _ _ _ h=>h) (Or.inl ⟨by rfl,?y2⟩) (by assumption) ?r2
  case y2=>(intro w' hSw;(try dsimp only at hSw);go_simp;all_goals with_reducible rfl)
  try simp only [Act.put,sQ,tQ,vQ]
  refine wpAnyH_take (i:=3) (oi:=⟨some 53,.move (.tmp 1),36, "l10_typing.go:90",#[],none⟩) (v:=?v3) rfl (by kernel_rfl) (by kernel_rfl) (by kernel_rfl) (fun _ _ _ h=>h) (Or.inl ⟨by rfl,?y3⟩) (by assumption) ?r3
  case y3=>(intro w' hSw;(try dsimp only at hSw);go_simp;all_goals with_reducible rfl)
  try simp only [Act.put,sQ,tQ,vQ]
  refine wpAnyH_take (i:=4) (oi:=⟨some 54,.indexAddr 36 (.tmp 53) (.const (.int .i64 0)),0, "l10_typing.go:90",#[⟨3,.data⟩],none⟩) (v:=?v4) rfl (by kernel_rfl) (by kernel_rfl) (by kernel_rfl) (fun _ _ _ h=>h) (Or.inl ⟨by rfl,?y4⟩) (by assumption) ?r4
  case y4=>(intro w' hSw;(try dsimp only at hSw);go_simp;all_goals with_reducible rfl)
  try simp only [Act.put,sQ,tQ,vQ]
  refine wpAnyH_take (i:=5) (oi:=⟨some 55,.fieldAddr 38 (.tmp 54) 0,0, "l10_typing.go:90",#[⟨4,.data⟩],none⟩) (v:=?v5) rfl (by kernel_rfl) (by kernel_rfl) (by kernel_rfl) (fun _ _ _ h=>h) (Or.inl ⟨by rfl,?y5⟩) (by assumption) ?r5
  case y5=>(intro w' hSw;(try dsimp only at hSw);go_simp;all_goals with_reducible rfl)
  try simp only [Act.put,sQ,tQ,vQ]
  refine wpAnyH_take (i:=6) (oi:=⟨some 56,.load 3 (.tmp 55),3, "l10_typing.go:90",#[⟨5,.data⟩],none⟩) (v:=?v6) rfl (by kernel_rfl) (by kernel_rfl) (by kernel_rfl) (fun _ _ _ h=>h) (Or.inl ⟨by rfl,?y6⟩) (by assumption) ?r6
  case y6=>(intro w' hSw;(try dsimp only at hSw);go_simp;all_goals with_reducible rfl)
  try simp only [Act.put,sQ,tQ,vQ]
  refine wpAnyH_take (i:=7) (oi:=⟨some 57,.binOp .eql 3 (.tmp 56) (.const (.int .i64 4)) 3,4, "l10_typing.go:90",#[⟨6,.data⟩],none⟩) (v:=.bool false) rfl (by kernel_rfl) (by kernel_rfl) (by kernel_rfl) (fun _ _ _ h=>h) (Or.inl ⟨by rfl,?y7⟩) (by assumption) ?r7
  case y7=>(intro w' hSw;(try dsimp only at hSw);go_simp;all_goals first | with_reducible rfl | simp [hqb])
  try simp only [Act.put,sQ,tQ,vQ]
  refine wpAnyH_take (i:=8) (oi:=⟨some 58,.move (.tmp 57),4, "l10_typing.go:90",#[⟨7,.data⟩],none⟩) (v:=?v8) rfl (by kernel_rfl) (by kernel_rfl) (by kernel_rfl) (fun _ _ _ h=>h) (Or.inl ⟨by rfl,?y8⟩) (by assumption) ?r8
  case y8=>(intro w' hSw;(try dsimp only at hSw);go_simp;all_goals with_reducible rfl)
  try simp only [Act.put,sQ,tQ,vQ]
  refine wpAnyH_take (i:=9) (oi:=⟨some 59,.move (.tmp 1),36, "l10_typing.go:90",#[⟨8,.guard⟩],some (8,true)⟩) (v:=undef) rfl (by kernel_rfl) (by kernel_rfl) (by kernel_rfl) (fun _ _ _ h=>h) (Or.inr ⟨by rfl,rfl⟩) (by assumption) ?_
  try simp only [Act.put,sQ,tQ,vQ]
  refine wpAnyH_take (i:=10) (oi:=⟨some 60,.indexAddr 36 (.tmp 59) (.const (.int .i64 0)),0, "l10_typing.go:90",#[⟨9,.data⟩,⟨8,.guard⟩],some (8,true)⟩) (v:=undef) rfl (by kernel_rfl) (by kernel_rfl) (by kernel_rfl) (fun _ _ _ h=>h) (Or.inr ⟨by rfl,rfl⟩) (by assumption) ?_
  try simp only [Act.put,sQ,tQ,vQ]
  refine wpAnyH_take (i:=11) (oi:=⟨some 61,.load 38 (.tmp 60),38, "l10_typing.go:90",#[⟨10,.data⟩,⟨8,.guard⟩],some (8,true)⟩) (v:=undef) rfl (by kernel_rfl) (by kernel_rfl) (by kernel_rfl) (fun _ _ _ h=>h) (Or.inr ⟨by rfl,rfl⟩) (by assumption) ?_
  try simp only [Act.put,sQ,tQ,vQ]
  refine wpAnyH_take (i:=12) (oi:=⟨some 62,.move (.tmp 1),36, "l10_typing.go:90",#[⟨8,.guard⟩],some (8,true)⟩) (v:=undef) rfl (by kernel_rfl) (by kernel_rfl) (by kernel_rfl) (fun _ _ _ h=>h) (Or.inr ⟨by rfl,rfl⟩) (by assumption) ?_
  try simp only [Act.put,sQ,tQ,vQ]
  refine wpAnyH_take (i:=13) (oi:=⟨some 63,.indexAddr 36 (.tmp 62) (.const (.int .i64 1)),0, "l10_typing.go:90",#[⟨12,.data⟩,⟨8,.guard⟩],some (8,true)⟩) (v:=undef) rfl (by kernel_rfl) (by kernel_rfl) (by kernel_rfl) (fun _ _ _ h=>h) (Or.inr ⟨by rfl,rfl⟩) (by assumption) ?_
  try simp only [Act.put,sQ,tQ,vQ]
  refine wpAnyH_take (i:=14) (oi:=⟨some 64,.load 38 (.tmp 63),38, "l10_typing.go:90",#[⟨13,.data⟩,⟨8,.guard⟩],some (8,true)⟩) (v:=undef) rfl (by kernel_rfl) (by kernel_rfl) (by kernel_rfl) (fun _ _ _ h=>h) (Or.inr ⟨by rfl,rfl⟩) (by assumption) ?_
  try simp only [Act.put,sQ,tQ,vQ]
  refine wpAnyH_take (i:=15) (oi:=⟨some 65,.call ⟨.value (.func 134),#[.tmp 61,.tmp 64],#[38,38]⟩,4, "l10_typing.go:90",#[⟨11,.data⟩,⟨14,.data⟩,⟨8,.chain⟩,⟨8,.guard⟩],some (8,true)⟩) (v:=undef) rfl (by kernel_rfl) (by kernel_rfl) (by kernel_rfl) (fun _ _ _ h=>h) (Or.inr ⟨by rfl,rfl⟩) (by assumption) ?_
  try simp only [Act.put,sQ,tQ,vQ]
  refine wpAnyH_take (i:=16) (oi:=⟨some 66,.pick (.tmp 58) (.tmp 65) (.const (.bool false)),4, "l10_typing.go:90",#[⟨8,.data⟩,⟨15,.data⟩,⟨17,.gcOnly .lateStores⟩],none⟩) (v:=?v16) rfl (by kernel_rfl) (by kernel_rfl) (by kernel_rfl) (fun _ _ _ h=>h) (Or.inl ⟨by rfl,?y16⟩) (by assumption) ?r16
  case y16=>(intro w' hSw;(try dsimp only at hSw);go_simp;all_goals with_reducible rfl)
  try simp only [Act.put,sQ,tQ,vQ]
  refine wpAnyH_ready (rs:=[17]) (by kernel_rfl) (by simp) ?_;refine AllReadyH.cons (o:=⟨none,.store 38 (.tmp 4) (.tmp 52),0, "l10_typing.go:90",#[⟨2,.data⟩,⟨15,.chain⟩,⟨0,.phase⟩,⟨1,.phase⟩,⟨2,.phase⟩,⟨3,.textOnly .lateStores⟩,⟨4,.textOnly .lateStores⟩,⟨5,.textOnly .lateStores⟩,⟨6,.textOnly .lateStores⟩,⟨7,.textOnly .lateStores⟩,⟨8,.textOnly .lateStores⟩,⟨9,.textOnly .lateStores⟩,⟨10,.textOnly .lateStores⟩,⟨11,.textOnly .lateStores⟩,⟨12,.textOnly .lateStores⟩,⟨13,.textOnly .lateStores⟩,⟨14,.textOnly .lateStores⟩,{ on:=15,ground:=Ground.textOnly Departure.lateStoresUnsure },⟨16,.textOnly .lateStores⟩],none⟩) rfl (fun K hK=>?_) AllReadyH.nil;clear hHeld;go_simp;refine hK _ _ ?_ (fun hHeld=>?_)
  ·(try dsimp only);(refine ⟨?_,?_,?_⟩ <;> first | assumption | (simp [World.cell?_setCell_far,hgn,hgm];assumption))
  clear hK K
  try simp only [Act.put,sQ,tQ,vQ]
  refine wpAnyH_take (i:=18) (oi:=⟨some 5,.assign (.tmp 66),4, "l10_typing.go:90",#[⟨16,.data⟩,⟨17,.chain⟩,⟨0,.phase⟩,⟨1,.phase⟩,⟨2,.phase⟩,⟨3,.phase⟩,⟨4,.phase⟩,⟨5,.phase⟩,⟨6,.phase⟩,⟨7,.phase⟩,⟨8,.phase⟩,⟨9,.phase⟩,⟨10,.phase⟩,⟨11,.phase⟩,⟨12,.phase⟩,⟨13,.phase⟩,⟨14,.phase⟩,⟨15,.phase⟩,⟨16,.phase⟩,⟨17,.phase⟩],none⟩) (v:=?v18) rfl (by kernel_rfl) (by kernel_rfl) (by kernel_rfl) (fun _ _ _ h=>h) (Or.inl ⟨by rfl,?y18⟩) (by assumption) ?r18
  case y18=>(intro w' hSw;(try dsimp only at hSw);go_simp;all_goals with_reducible rfl)
  try simp only [Act.put,sQ,tQ,vQ]
  refine wpAnyH_done (by kernel_rfl) ?_ _;refine NoPanic.normal ?_;have HMM:Hid (∀ U:World,W1.drew.grownBy U (some (H+1))->Zbe fp (Zac xs c a [t0,t1]) w (.returned (.tuple #[.agg #[.int .i64 kq,.slice L0 t0.top.labels.length l0,.slice B0 t0.kids.length b0],.bool false])) U):=hQ (fun U hU=>by
   have hm:=Zgc (b:=false) (G:=H+1) O0.out OF0.out OB0.out HBd.out (by have:=HH.out;omega) hU;rw [HN.out,HV.out];rw [HKQ.out] at hm;exact hm)
  go_wp2_with fail
  generalize hU:(((W1.setCell ⟨H+1,0,none⟩ (.int .i64 kq)).setCell ⟨H+1,1,none⟩ (.slice L0 t0.top.labels.length l0)).setCell ⟨H+1,2,none⟩ (.slice B0 t0.kids.length b0)).drew=U;have hgU:W1.drew.grownBy U (some (H+1)):=by rw [<-hU];exact Zaa (Zaa (Zaa (gQ) _) _) _
  have u1:Box3 U (H+1) 38 (.int .i64 kq) (.slice L0 t0.top.labels.length l0) (.slice B0 t0.kids.length b0):=by
   rw [<-hU];exact ((BRd.out.set0 _).set1 _).set2 _
  have HRR:=hQ (HMM.out U hgU);have tt0:=u1.c0;have tt1:=u1.c1;have tt2:=u1.c2;clear hU hgU u1 r0 r1 r2 s0 s1 s2;exact bodyPost_ret (v:=.tuple #[.agg #[.int .i64 kq,.slice L0 t0.top.labels.length l0,.slice B0 t0.kids.length b0],.bool false]) (by simp [results,Tryz.results103,go_sem,tt0,tt1,tt2]) rfl HRR.out
end Go.Proofs.YtlcedleebbgebaaGreatDoor
