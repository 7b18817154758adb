/-
  Merged by program: TypF14.
-/
import Derived.Test.YtlcedleebbgebaaGreatDoorQ22
set_option maxRecDepth 100000
set_option maxHeartbeats 32000000
set_option linter.all false
namespace Go.Proofs.YtlcedleebbgebaaGreatDoor
open Go.RowKit
theorem Zacx (xs:Sc)(c:Cx)(a:TeA)(kse:List Te)(t0:Ty)(t1:Ty)(A:Option Addr)(d:Nat)(fp:List Nat)(w:World)(cs:List Value)(hk:a.kind=14)(h:RTe w (.node a kse) cs)(ho:OL kTy 38 w [t0,t1] (.slice A 2 d) fp)(hw:∀ t∈[t0,t1],wt t<=1048576)(hv:Zae t0=true):Calls Tryz.prog 103 #[.agg cs.toArray,.slice A 2 d] w (Zbe fp (Zac xs c a [t0,t1]) w):=by
 obtain ⟨TL,tc,TA,td,LE,lc0,KA,kd,rfl,hT,hL,hok,_,_,_⟩:=h.out;obtain ⟨kl,hkl⟩:∃ kl,kse.length=kl:=⟨_,rfl⟩;rw [hkl];obtain ⟨W1,hW1⟩:∃ W1,(w.alloc (.cells #[.int .i64 a.kind,.string a.name,.int .i64 a.num,.int .i64 a.type.top.kind,.slice TL a.type.top.labels.length tc,.slice TA a.type.kids.length td,.slice LE a.labels.length lc0,.slice KA kl kd] 49)).alloc (.cells #[.int .i64 0,.slice none 0 0,.slice none 0 0] 38)=W1:=⟨_,rfl⟩;obtain ⟨H,hH⟩:∃ H,w.heap.size=H:=⟨_,rfl⟩;have bt:Box8 W1 H 49 (.int .i64 a.kind) (.string a.name) (.int .i64 a.num) (.int .i64 a.type.top.kind) (.slice TL a.type.top.labels.length tc) (.slice TA a.type.kids.length td) (.slice LE a.labels.length lc0) (.slice KA kl kd):=by rw [<-hW1,<-hH];exact (Box8.new w 49 (.int .i64 a.kind) (.string a.name) (.int .i64 a.num) (.int .i64 a.type.top.kind) (.slice TL a.type.top.labels.length tc) (.slice TA a.type.kids.length td) (.slice LE a.labels.length lc0) (.slice KA kl kd)).alloc _
 have br:Box3 W1 (H+1) 38 (.int .i64 0) (.slice none 0 0) (.slice none 0 0):=by
  rw [<-hW1,<-hH]
  have:=Box3.new (w.alloc (.cells #[.int .i64 a.kind,.string a.name,.int .i64 a.num,.int .i64 a.type.top.kind,.slice TL a.type.top.labels.length tc,.slice TA a.type.kids.length td,.slice LE a.labels.length lc0,.slice KA kl kd] 49)) 38 (.int .i64 0) (.slice none 0 0) (.slice none 0 0)
  simpa using this
 have hb1:Below w.heap.size w W1:=by rw [<-hW1];exact (bQ.alloc nQ _).alloc (by simp) _
 have hs1:W1.heap.size=H+2:=by rw [<-hW1,<-hH];simp
 have HB1:=hQ hb1;have HS1:=hQ hs1;have HH:=hQ hH;have HW1:=hQ hW1;have BR:=hQ br;have BT:=hQ bt;have HN:Hid (Zac xs c a [t0,t1]=appT t0 t1):=hQ (by unfold Zac;(iterate 13 rw [if_neg (by rw [hk];decide)]);rw [if_pos hk];try rfl);have x0:=bt.c0;have x1:=bt.c1;have x6:=bt.c6;obtain ⟨g,rfl,hgf,hat⟩:=Zgr ho (by simp);obtain ⟨L0,B0,l0,b0,f0,y00,y01,y02,o0,hf0,hg0⟩:=hat 0 (by simp);simp only [List.getElem_cons_zero,List.getElem_cons_succ] at o0 y00 y01 y02;have up0:∀ (W:World),Below w.heap.size w W->W.cell? ⟨g,0,none⟩=some (.int .i64 t0.top.kind)/\W.cell? ⟨g,1,none⟩=some (.slice L0 t0.top.labels.length l0)/\W.cell? ⟨g,2,none⟩=some (.slice B0 t0.kids.length b0):=fun W hB=>⟨uQ hB y00,uQ hB y01,uQ hB y02⟩
 obtain ⟨p00,p01,p02⟩:=up0 W1 hb1;obtain ⟨j00,j01,j02⟩:=up0 W1 hb1;rw [<-hW1] at j00 j01 j02;have O0:=hQ o0;have OF0:=hQ hf0;have OB0:=hQ (Zbi o0);have R0:=hQ (fun (W:World) (hB:Below w.heap.size w W)=>(OTy.reads o0).keep hB);have UP0:=hQ up0;obtain ⟨L1,B1,l1,b1,f1,y10,y11,y12,o1,hf1,hg1⟩:=hat 1 (by simp);simp only [List.getElem_cons_zero,List.getElem_cons_succ] at o1 y10 y11 y12;have up1:∀ (W:World),Below w.heap.size w W->W.cell? ⟨g,3,none⟩=some (.int .i64 t1.top.kind)/\W.cell? ⟨g,4,none⟩=some (.slice L1 t1.top.labels.length l1)/\W.cell? ⟨g,5,none⟩=some (.slice B1 t1.kids.length b1):=fun W hB=>⟨uQ hB y10,uQ hB y11,uQ hB y12⟩
 obtain ⟨p10,p11,p12⟩:=up1 W1 hb1;obtain ⟨j10,j11,j12⟩:=up1 W1 hb1;rw [<-hW1] at j10 j11 j12;have O1:=hQ o1;have OF1:=hQ hf1;have OB1:=hQ (Zbi o1);have R1:=hQ (fun (W:World) (hB:Below w.heap.size w W)=>(OTy.reads o1).keep hB);have UP1:=hQ up1;clear hat hgf;have HEQ:=hQ (fun (u:Ty) (cs:List Value) (h:RTy W1.drew u cs)=>Zil u t1 W1.drew _ _ h (R1.out W1.drew hb1.drew));have BRd:=hQ (show Box3 W1.drew (H+1) 38 (.int .i64 0) (.slice none 0 0) (.slice none 0 0) from br);have HBd:=hQ hb1.drew;have r0:=BR.out.c0;have r1:=BR.out.c1;have r2:=BR.out.c2;have s0:=BR.out.free 0;have s1:=BR.out.free 1;have s2:=BR.out.free 2;obtain ⟨kq,hkq⟩:∃ kq,t0.top.kind=kq:=⟨_,rfl⟩;have HKQ:=hQ hkq;have HVL:=hQ hv;have HW0:=hQ (hw t0 (by simp));obtain ⟨hnk,fpK,hol⟩:=Zsg o0;have HOL:=hQ hol;rw [hkq] at p00 j00 UP0;clear hkq hv hol hnk;rw [hk] at HW1 x0 j00 j01 j02 j10 j11 j12 ⊢;clear y00 y01 y02 o0 hf0 hg0 up0 y10 y11 y12 o1 hf1 hg1 up1;clear hk h ho hw hW1 bt br hb1 hs1 hT hL hok hkl;go_enter Tryz.func103,Tryz.ntmps103;go_wp2_with fail;rw [HW1.out];go_wp2_with fail;by_cases hq:kq=5
 ·subst hq
  obtain ⟨ua,ub,hu⟩:=Zpl HVL.out HKQ.out;have hol:=HOL.out;have hl2:t0.kids.length=2:=by rw [hu];rfl
  rw [hl2] at hol p02 UP0;rw [hu] at hol;obtain ⟨g2,rfl,_,hat2⟩:=Zgr hol (by simp);obtain ⟨La,Ba,la,ba,fa,ya0,ya1,ya2,oa,_,_⟩:=hat2 0 (by simp);simp only [List.getElem_cons_zero,List.getElem_cons_succ] at oa ya0 ya1 ya2;have upa:∀ (W:World),Below w.heap.size w W->W.cell? ⟨g2,0,none⟩=some (.int .i64 ua.top.kind)/\W.cell? ⟨g2,1,none⟩=some (.slice La ua.top.labels.length la)/\W.cell? ⟨g2,2,none⟩=some (.slice Ba ua.kids.length ba):=fun W hB=>⟨uQ hB ya0,uQ hB ya1,uQ hB ya2⟩
  have UPA:=hQ upa;have RA:=hQ (fun (W:World) (hB:Below w.heap.size w W)=>(OTy.reads oa).keep hB);obtain ⟨pa0,pa1,pa2⟩:=upa W1 HB1.out;obtain ⟨Lb,Bb,lb,bb,fb,yb0,yb1,yb2,ob,_,_⟩:=hat2 1 (by simp);simp only [List.getElem_cons_zero,List.getElem_cons_succ] at ob yb0 yb1 yb2;have upb:∀ (W:World),Below w.heap.size w W->W.cell? ⟨g2,3,none⟩=some (.int .i64 ub.top.kind)/\W.cell? ⟨g2,4,none⟩=some (.slice Lb ub.top.labels.length lb)/\W.cell? ⟨g2,5,none⟩=some (.slice Bb ub.kids.length bb):=fun W hB=>⟨uQ hB yb0,uQ hB yb1,uQ hB yb2⟩
  have UPB:=hQ upb;have RB:=hQ (fun (W:World) (hB:Below w.heap.size w W)=>(OTy.reads ob).keep hB);obtain ⟨pb0,pb1,pb2⟩:=upb W1 HB1.out;have HEA:=hQ (HEQ.out ua _ (RA.out W1.drew HBd.out));have HWB:Hid (wt ub<=1048576):=hQ (by
   have h1:=HW0.out;have h2:ub∈t0.kids:=by rw [hu];simp
   obtain ⟨q,ks⟩:=t0;exact Nat.le_trans (Zbn h2) h1)
  have HAP:Hid (appT t0 t1=ifAny (same ua t1) ub):=hQ (by unfold appT;rw [HKQ.out,hu];rfl);clear hol hat2 ya0 ya1 ya2 yb0 yb1 yb2 oa ob upa upb hu hl2 HEQ HOL;cases hbb:same ua t1
  ·have HV:Hid (appT t0 t1=none):=hQ (by rw [HAP.out,hbb];rfl)
   rw [hbb] at HEA;clear hbb;go_region_law (first | (go_simp;refine HEA.out.mono ?_;rintro e w3 ⟨rfl,hb3⟩;have HB3:=hQ (HBd.out.trans (hb3.mono HBd.out.size));have BR3:=hQ (BRd.out.under hb3 BRd.out.lt);have HS3:Hid (H+1 < w3.heap.size):=hQ (by have:=HS1.out;have h2:W1.heap.size<=w3.heap.size:=hb3.size;omega);obtain ⟨c00,c01,c02⟩:=UP0.out w3 HB3.out;obtain ⟨c10,c11,c12⟩:=UP1.out w3 HB3.out;obtain ⟨va0,va1,va2⟩:=UPA.out w3 HB3.out;obtain ⟨vb0,vb1,vb2⟩:=UPB.out w3 HB3.out;have z0:=BR3.out.c0;have z1:=BR3.out.c1;have z2:=BR3.out.c2;have k0:=BR3.out.free 0;have k1:=BR3.out.free 1;have k2:=BR3.out.free 2;clear hb3));all_goals (
    clear r0 r1 r2 s0 s1 s2;have HZZ:Hid (∀ U:World,w3.grownBy U (some (H+1))->Zbe fp (Zac xs c a [t0,t1]) w (.returned (.tuple #[.agg #[.int .i64 0,.slice none 0 0,.slice none 0 0],.bool false])) U):=hQ (fun U hU=>(fun h=>by rw [HN.out,HV.out];exact Zch (Zcj h)) <| (Zaj (HB3.out.grown hU HB3.out.size (fun k hk=>by injection hk with hk;have:=HH.out;omega))));have r0:=BR3.out.c0;have r1:=BR3.out.c1;have r2:=BR3.out.c2;have s0:=BR3.out.free 0;have s1:=BR3.out.free 1;have s2:=BR3.out.free 2;go_wp2_with fail;generalize hU:((w3.setCell ⟨H+1,0,none⟩ (.int .i64 0)).setCell ⟨H+1,1,none⟩ (.slice none 0 0)).setCell ⟨H+1,2,none⟩ (.slice none 0 0)=U;have hgU:w3.grownBy U (some (H+1)):=by rw [<-hU];exact Zaa (Zaa (Zaa (gQ) _) _) _
    have u1:Box3 U (H+1) 38 (.int .i64 0) (.slice none 0 0) (.slice none 0 0):=by
     rw [<-hU];exact ((BR3.out.set0 _).set1 _).set2 _
    have HRR:=hQ (HZZ.out U hgU);have tt0:=u1.c0;have tt1:=u1.c1;have tt2:=u1.c2;clear hU hgU u1 r0 r1 r2 s0 s1 s2 z0 z1 z2 k0 k1 k2;exact bodyPost_ret (v:=.tuple #[.agg #[.int .i64 0,.slice none 0 0,.slice none 0 0],.bool false]) (by simp [results,Tryz.results103,go_sem,tt0,tt1,tt2]) rfl HRR.out)
  ·have HV:Hid (appT t0 t1=some ub):=hQ (by rw [HAP.out,hbb];rfl)
   rw [hbb] at HEA;clear hbb;go_region_law (first | (go_simp;refine HEA.out.mono ?_;rintro e w3 ⟨rfl,hb3⟩;have HB3:=hQ (HBd.out.trans (hb3.mono HBd.out.size));have BR3:=hQ (BRd.out.under hb3 BRd.out.lt);have HS3:Hid (H+1 < w3.heap.size):=hQ (by have:=HS1.out;have h2:W1.heap.size<=w3.heap.size:=hb3.size;omega);obtain ⟨c00,c01,c02⟩:=UP0.out w3 HB3.out;obtain ⟨c10,c11,c12⟩:=UP1.out w3 HB3.out;obtain ⟨va0,va1,va2⟩:=UPA.out w3 HB3.out;obtain ⟨vb0,vb1,vb2⟩:=UPB.out w3 HB3.out;have z0:=BR3.out.c0;have z1:=BR3.out.c1;have z2:=BR3.out.c2;have k0:=BR3.out.free 0;have k1:=BR3.out.free 1;have k2:=BR3.out.free 2;clear hb3));all_goals (
    clear r0 r1 r2 s0 s1 s2 z0 z1 z2 k0 k1 k2;have HCP:=hQ (Zcm ub w3 _ (RB.out w3 HB3.out) HWB.out);go_wp2_with fail;refine HCP.out.mono ?_;rintro e w5 hmade;have hb3:Below w3.heap.size w3 w5:=by
     obtain ⟨_,_,_,_,_,_,_,_,hb3⟩:=hmade;exact hb3
    have HBX:=hQ (BR3.out.under hb3 BR3.out.lt);have HM:=hQ (fun (U:World) (hU:w5.grownBy U (some (H+1)))=>Zcz (b:=true) (w:=w) (U:=U) hmade HB3.out (HS3.out) (by have:=HH.out;omega) hU);obtain ⟨LL,AA,lc,dd,rfl,_⟩:=HM.out w5 (gQ);have HM2:Hid (∀ U:World,w5.grownBy U (some (H+1))->Zbe fp (Zac xs c a [t0,t1]) w (.returned (.tuple #[.agg #[.int .i64 (ub).top.kind,.slice LL (ub).top.labels.length lc,.slice AA (ub).kids.length dd],.bool true])) U):=hQ (by
     intro U hU
     obtain ⟨L9,A9,c9,d9,e9,h9⟩:=HM.out U hU;injection e9 with e9
     rw [<-e9] at h9;exact (fun h=>by rw [HN.out,HV.out];exact Zch (Zck h)) h9)
    have r0:=HBX.out.c0;have r1:=HBX.out.c1;have r2:=HBX.out.c2;have s0:=HBX.out.free 0;have s1:=HBX.out.free 1;have s2:=HBX.out.free 2;generalize (ub).top.kind=y0 at HM2 ⊢;generalize (ub).top.labels.length=y1 at HM2 ⊢;generalize (ub).kids.length=y2 at HM2 ⊢;clear hmade hb3 HM;go_wp2_with fail;generalize hU:((w5.setCell ⟨H+1,0,none⟩ (.int .i64 y0)).setCell ⟨H+1,1,none⟩ (.slice LL y1 lc)).setCell ⟨H+1,2,none⟩ (.slice AA y2 dd)=U;have hgU:w5.grownBy U (some (H+1)):=by rw [<-hU];exact Zaa (Zaa (Zaa (gQ) _) _) _
    have u1:Box3 U (H+1) 38 (.int .i64 y0) (.slice LL y1 lc) (.slice AA y2 dd):=by
     rw [<-hU];exact ((HBX.out.set0 _).set1 _).set2 _
    have HRR:=hQ (HM2.out U hgU);have tt0:=u1.c0;have tt1:=u1.c1;have tt2:=u1.c2;clear hU hgU u1 r0 r1 r2 s0 s1 s2;exact bodyPost_ret (v:=.tuple #[.agg #[.int .i64 y0,.slice LL y1 lc,.slice AA y2 dd],.bool true]) (by simp [results,Tryz.results103,go_sem,tt0,tt1,tt2]) rfl HRR.out)
 ·have HV:Hid (appT t0 t1=none):=hQ (by unfold appT;rw [HKQ.out,decide_eq_false hq];rfl)
  have hqb:(kq == 5)=false:=by simpa using hq
  refine wp_region_noPanic ?_;refine wp_region_held_drew (S:=(fun W=>W.cell? ⟨g,0,none⟩=some (.int .i64 kq)/\W.cell? ⟨g,1,none⟩=some (.slice L0 t0.top.labels.length l0)/\W.cell? ⟨g,2,none⟩=some (.slice B0 t0.kids.length b0))) (by kernel_rfl) ?_ (fun hHeld=>?_)
  ·(try dsimp only);(refine ⟨?_,?_,?_⟩ <;> assumption)
  refine wpAnyH_take (i:=0) (oi:=⟨some 88,.move (.tmp 1),36, "l10_typing.go:94",#[],none⟩) (v:=?v0) rfl (by kernel_rfl) (by kernel_rfl) (by kernel_rfl) (fun _ _ _ h=>h) (Or.inl ⟨by rfl,?y0⟩) (by assumption) ?r0
  case y0=>(intro w' hSw;(try dsimp only at hSw);go_simp;all_goals with_reducible rfl)
  try simp only [Act.put,sQ,tQ,vQ]
  refine wpAnyH_take (i:=1) (oi:=⟨some 89,.indexAddr 36 (.tmp 88) (.const (.int .i64 0)),0, "l10_typing.go:94",#[⟨0,.data⟩],none⟩) (v:=?v1) rfl (by kernel_rfl) (by kernel_rfl) (by kernel_rfl) (fun _ _ _ h=>h) (Or.inl ⟨by rfl,?y1⟩) (by assumption) ?r1
  case y1=>(intro w' hSw;(try dsimp only at hSw);go_simp;all_goals with_reducible rfl)
  try simp only [Act.put,sQ,tQ,vQ]
  refine wpAnyH_take (i:=2) (oi:=⟨some 90,.fieldAddr 38 (.tmp 89) 0,0, "l10_typing.go:94",#[⟨1,.data⟩],none⟩) (v:=?v2) rfl (by kernel_rfl) (by kernel_rfl) (by kernel_rfl) (fun _ _ _ h=>h) (Or.inl ⟨by rfl,?y2⟩) (by assumption) ?r2
  case y2=>(intro w' hSw;(try dsimp only at hSw);go_simp;all_goals with_reducible rfl)
  try simp only [Act.put,sQ,tQ,vQ]
  refine wpAnyH_take (i:=3) (oi:=⟨some 91,.load 3 (.tmp 90),3, "l10_typing.go:94",#[⟨2,.data⟩],none⟩) (v:=?v3) rfl (by kernel_rfl) (by kernel_rfl) (by kernel_rfl) (fun _ _ _ h=>h) (Or.inl ⟨by rfl,?y3⟩) (by assumption) ?r3
  case y3=>(intro w' hSw;(try dsimp only at hSw);go_simp;all_goals with_reducible rfl)
  try simp only [Act.put,sQ,tQ,vQ]
  refine wpAnyH_take (i:=4) (oi:=⟨some 92,.binOp .eql 3 (.tmp 91) (.const (.int .i64 5)) 3,4, "l10_typing.go:94",#[⟨3,.data⟩],none⟩) (v:=.bool false) rfl (by kernel_rfl) (by kernel_rfl) (by kernel_rfl) (fun _ _ _ h=>h) (Or.inl ⟨by rfl,?y4⟩) (by assumption) ?r4
  case y4=>(intro w' hSw;(try dsimp only at hSw);go_simp;all_goals first | with_reducible rfl | simp [hqb])
  try simp only [Act.put,sQ,tQ,vQ]
  refine wpAnyH_take (i:=5) (oi:=⟨some 93,.move (.tmp 92),4, "l10_typing.go:94",#[⟨4,.data⟩],none⟩) (v:=?v5) rfl (by kernel_rfl) (by kernel_rfl) (by kernel_rfl) (fun _ _ _ h=>h) (Or.inl ⟨by rfl,?y5⟩) (by assumption) ?r5
  case y5=>(intro w' hSw;(try dsimp only at hSw);go_simp;all_goals with_reducible rfl)
  try simp only [Act.put,sQ,tQ,vQ]
  refine wpAnyH_take (i:=6) (oi:=⟨some 94,.move (.tmp 1),36, "l10_typing.go:94",#[⟨5,.guard⟩],some (5,true)⟩) (v:=undef) rfl (by kernel_rfl) (by kernel_rfl) (by kernel_rfl) (fun _ _ _ h=>h) (Or.inr ⟨by rfl,rfl⟩) (by assumption) ?_
  try simp only [Act.put,sQ,tQ,vQ]
  refine wpAnyH_take (i:=7) (oi:=⟨some 95,.indexAddr 36 (.tmp 94) (.const (.int .i64 0)),0, "l10_typing.go:94",#[⟨6,.data⟩,⟨5,.guard⟩],some (5,true)⟩) (v:=undef) rfl (by kernel_rfl) (by kernel_rfl) (by kernel_rfl) (fun _ _ _ h=>h) (Or.inr ⟨by rfl,rfl⟩) (by assumption) ?_
  try simp only [Act.put,sQ,tQ,vQ]
  refine wpAnyH_take (i:=8) (oi:=⟨some 96,.fieldAddr 38 (.tmp 95) 2,0, "l10_typing.go:94",#[⟨7,.data⟩,⟨5,.guard⟩],some (5,true)⟩) (v:=undef) rfl (by kernel_rfl) (by kernel_rfl) (by kernel_rfl) (fun _ _ _ h=>h) (Or.inr ⟨by rfl,rfl⟩) (by assumption) ?_
  try simp only [Act.put,sQ,tQ,vQ]
  refine wpAnyH_take (i:=9) (oi:=⟨some 97,.load 36 (.tmp 96),36, "l10_typing.go:94",#[⟨8,.data⟩,⟨5,.guard⟩],some (5,true)⟩) (v:=undef) rfl (by kernel_rfl) (by kernel_rfl) (by kernel_rfl) (fun _ _ _ h=>h) (Or.inr ⟨by rfl,rfl⟩) (by assumption) ?_
  try simp only [Act.put,sQ,tQ,vQ]
  refine wpAnyH_take (i:=10) (oi:=⟨some 98,.indexAddr 36 (.tmp 97) (.const (.int .i64 0)),0, "l10_typing.go:94",#[⟨9,.data⟩,⟨5,.guard⟩],some (5,true)⟩) (v:=undef) rfl (by kernel_rfl) (by kernel_rfl) (by kernel_rfl) (fun _ _ _ h=>h) (Or.inr ⟨by rfl,rfl⟩) (by assumption) ?_
  try simp only [Act.put,sQ,tQ,vQ]
  refine wpAnyH_take (i:=11) (oi:=⟨some 99,.load 38 (.tmp 98),38, "l10_typing.go:94",#[⟨10,.data⟩,⟨5,.guard⟩],some (5,true)⟩) (v:=undef) rfl (by kernel_rfl) (by kernel_rfl) (by kernel_rfl) (fun _ _ _ h=>h) (Or.inr ⟨by rfl,rfl⟩) (by assumption) ?_
  try simp only [Act.put,sQ,tQ,vQ]
  refine wpAnyH_take (i:=12) (oi:=⟨some 100,.move (.tmp 1),36, "l10_typing.go:94",#[⟨5,.guard⟩],some (5,true)⟩) (v:=undef) rfl (by kernel_rfl) (by kernel_rfl) (by kernel_rfl) (fun _ _ _ h=>h) (Or.inr ⟨by rfl,rfl⟩) (by assumption) ?_
  try simp only [Act.put,sQ,tQ,vQ]
  refine wpAnyH_take (i:=13) (oi:=⟨some 101,.indexAddr 36 (.tmp 100) (.const (.int .i64 1)),0, "l10_typing.go:94",#[⟨12,.data⟩,⟨5,.guard⟩],some (5,true)⟩) (v:=undef) rfl (by kernel_rfl) (by kernel_rfl) (by kernel_rfl) (fun _ _ _ h=>h) (Or.inr ⟨by rfl,rfl⟩) (by assumption) ?_
  try simp only [Act.put,sQ,tQ,vQ]
  refine wpAnyH_take (i:=14) (oi:=⟨some 102,.load 38 (.tmp 101),38, "l10_typing.go:94",#[⟨13,.data⟩,⟨5,.guard⟩],some (5,true)⟩) (v:=undef) rfl (by kernel_rfl) (by kernel_rfl) (by kernel_rfl) (fun _ _ _ h=>h) (Or.inr ⟨by rfl,rfl⟩) (by assumption) ?_
  try simp only [Act.put,sQ,tQ,vQ]
  refine wpAnyH_take (i:=15) (oi:=⟨some 103,.call ⟨.value (.func 134),#[.tmp 99,.tmp 102],#[38,38]⟩,4, "l10_typing.go:94",#[⟨11,.data⟩,⟨14,.data⟩,⟨5,.chain⟩,⟨5,.guard⟩],some (5,true)⟩) (v:=undef) rfl (by kernel_rfl) (by kernel_rfl) (by kernel_rfl) (fun _ _ _ h=>h) (Or.inr ⟨by rfl,rfl⟩) (by assumption) ?_
  try simp only [Act.put,sQ,tQ,vQ]
  refine wpAnyH_take (i:=16) (oi:=⟨some 104,.pick (.tmp 93) (.tmp 103) (.const (.bool false)),4, "l10_typing.go:94",#[⟨5,.data⟩,⟨15,.data⟩],none⟩) (v:=?v16) rfl (by kernel_rfl) (by kernel_rfl) (by kernel_rfl) (fun _ _ _ h=>h) (Or.inl ⟨by rfl,?y16⟩) (by assumption) ?r16
  case y16=>(intro w' hSw;(try dsimp only at hSw);go_simp;all_goals with_reducible rfl)
  try simp only [Act.put,sQ,tQ,vQ]
  refine wpAnyH_done (by kernel_rfl) ?_ _;refine NoPanic.normal ?_;clear r0 r1 r2 s0 s1 s2;have HZZ:Hid (∀ U:World,W1.drew.grownBy U (some (H+1))->Zbe fp (Zac xs c a [t0,t1]) w (.returned (.tuple #[.agg #[.int .i64 0,.slice none 0 0,.slice none 0 0],.bool false])) U):=hQ (fun U hU=>(fun h=>by rw [HN.out,HV.out];exact Zch (Zcj h)) <| (Zaj (HBd.out.grown hU HBd.out.size (fun k hk=>by injection hk with hk;have:=HH.out;omega))));have r0:=BR.out.c0;have r1:=BR.out.c1;have r2:=BR.out.c2;have s0:=BR.out.free 0;have s1:=BR.out.free 1;have s2:=BR.out.free 2;go_wp2_with fail;generalize hU:(((W1.setCell ⟨H+1,0,none⟩ (.int .i64 0)).setCell ⟨H+1,1,none⟩ (.slice none 0 0)).setCell ⟨H+1,2,none⟩ (.slice none 0 0)).drew=U;have hgU:W1.drew.grownBy U (some (H+1)):=by rw [<-hU];exact Zaa (Zaa (Zaa (gQ) _) _) _
  have u1:Box3 U (H+1) 38 (.int .i64 0) (.slice none 0 0) (.slice none 0 0):=by
   rw [<-hU];exact ((BR.out.set0 _).set1 _).set2 _
  have HRR:=hQ (HZZ.out U hgU);have tt0:=u1.c0;have tt1:=u1.c1;have tt2:=u1.c2;clear hU hgU u1 r0 r1 r2 s0 s1 s2;exact bodyPost_ret (v:=.tuple #[.agg #[.int .i64 0,.slice none 0 0,.slice none 0 0],.bool false]) (by simp [results,Tryz.results103,go_sem,tt0,tt1,tt2]) rfl HRR.out
end Go.Proofs.YtlcedleebbgebaaGreatDoor
