/-
  Merged by program: TypS3, TypS4, TypI6, TypK2.
-/
import Derived.Test.YtlcedleebbgebaaGreatDoorQ21
set_option maxRecDepth 100000
set_option maxHeartbeats 16000000
set_option linter.all false
namespace Go.Proofs.YtlcedleebbgebaaGreatDoor
open Go.RowKit
theorem Zbk (w:World)(o:Obj) {G:Option Nat}:w.grownBy (w.alloc o) G:=
 have h:=Zid ((Below.refl w.heap.size w).alloc nQ o)
 ⟨h.os,h.tape,h.output,h.size,fun i hi _=>h.block i hi (by simp)⟩
theorem Zdv {p:Ty×Bool}{w W2 w3 U:World}{e:Ending}{G:Nat}(h:MadeP p W2 e w3)(hb:Below w.heap.size w W2)(hG:G < W2.heap.size)(hwG:w.heap.size<=G)(hU:w3.grownBy U (some G)) :
  ∃ (L A:Option Addr) (c d:Nat),e=.returned (.tuple #[.agg #[.int .i64 p.1.top.kind,.slice L p.1.top.labels.length c,.slice A p.1.kids.length d],.bool p.2])/\
   MadeP p w (.returned (.tuple #[.agg #[.int .i64 p.1.top.kind,.slice L p.1.top.labels.length c,.slice A p.1.kids.length d],.bool p.2])) U:=by
 obtain ⟨L,A,c,d,fp,rfl,hot,hfp,hb3⟩:=h;have hs:=hb.size;have hsU:=hU.size;refine ⟨L,A,c,d,rfl,L,A,c,d,fp,rfl,hot.keep hU (fun b hm e=>by injection e with e;have:=(hfp b hm).1;omega),fun b hm=>?_,(hb.trans (hb3.mono hs)).grown hU (by have:=hb3.size;omega) (fun k hk=>by injection hk with hk;omega)⟩
 have:=hfp b hm
 omega
theorem Zqd (xs:Sc)(c:Cx)(a:TeA)(A:Option Addr)(d:Nat)(w:World)(ss cs:List Value)(hs:RSc w xs ss)(hc:RL kTg w A c)(h:RTe w (.node a []) cs)(hcl:c.length<=2097152)(hcw:∀ x∈c,wt x.2<=1048576)(hwT:wt a.type<=1048576)(hsw:wSc xs<=1048576)
  (hk:a.kind=1∨a.kind=2∨a.kind=3∨a.kind=7∨a.kind=12):Calls Tryz.prog 102 #[.agg ss.toArray,.slice A c.length d,.agg cs.toArray] w (Zau (Zac xs c a []) w):=by
 obtain ⟨SA,sd,rfl,hsl,hsd,hsp⟩:=hs.open;obtain ⟨TL,tc,TA,td,L,lc0,KA,kd,rfl,hT,_,_,_,_,_⟩:=h.out;have hk0:([]:List Te).length=0:=rfl;obtain ⟨W1,hW1⟩:∃ W1,((w.alloc (.cells #[.slice SA xs.length sd] 43)).alloc (.cells #[.int .i64 a.kind,.string a.name,.int .i64 a.num,.int .i64 a.type.top.kind,.slice TL a.type.top.labels.length tc,.slice TA a.type.kids.length td,.slice L a.labels.length lc0,.slice KA 0 kd] 49)).alloc (.cells #[.int .i64 0,.slice none 0 0,.slice none 0 0] 38)=W1:=⟨_,rfl⟩;obtain ⟨H,hH⟩:∃ H,w.heap.size=H:=⟨_,rfl⟩;have bs:Box1 W1 H 43 (.slice SA xs.length sd):=by rw [<-hW1,<-hH];exact ((Box1.new w _ _).alloc _).alloc _
 have bt:Box8 W1 (H+1) 49 (.int .i64 a.kind) (.string a.name) (.int .i64 a.num) (.int .i64 a.type.top.kind) (.slice TL a.type.top.labels.length tc) (.slice TA a.type.kids.length td) (.slice L a.labels.length lc0) (.slice KA 0 kd):=by
  rw [<-hW1,<-hH]
  have:=(Box8.new (w.alloc (.cells #[.slice SA xs.length sd] 43)) 49 (.int .i64 a.kind) (.string a.name) (.int .i64 a.num) (.int .i64 a.type.top.kind) (.slice TL a.type.top.labels.length tc) (.slice TA a.type.kids.length td) (.slice L a.labels.length lc0) (.slice KA 0 kd)).alloc (.cells #[.int .i64 0,.slice none 0 0,.slice none 0 0] 38)
  simpa using this
 have br:Box3 W1 (H+1+1) 38 (.int .i64 0) (.slice none 0 0) (.slice none 0 0):=by
  rw [<-hW1,<-hH]
  have:=Box3.new ((w.alloc (.cells #[.slice SA xs.length sd] 43)).alloc (.cells #[.int .i64 a.kind,.string a.name,.int .i64 a.num,.int .i64 a.type.top.kind,.slice TL a.type.top.labels.length tc,.slice TA a.type.kids.length td,.slice L a.labels.length lc0,.slice KA 0 kd] 49)) 38 (.int .i64 0) (.slice none 0 0) (.slice none 0 0)
  simpa using this
 have hb1:Below w.heap.size w W1:=by rw [<-hW1];exact ((bQ.alloc nQ _).alloc (by simp) _).alloc (by simp;omega) _
 have hs1:W1.heap.size=H+3:=by rw [<-hW1,<-hH];simp
 have HLK:=hQ (Zqe c a.name A d W1 (hc.keep hb1) hcl hcw);have HRT:=hQ (Zpc xs a.name W1 _ (hs.keep hb1) hsw);have HRW:Hid (wt (Zai xs a.name).1<=1048576):=hQ (Nat.le_trans (Zkk xs a.name) hsw);have HBG:=hQ (Zka a.type W1 _ (hT.keep hb1) hwT);have HB1:=hQ hb1;have HS1:=hQ hs1;have HH:=hQ hH;have HW1:=hQ hW1;have BR:=hQ br;have x0:=bt.c0;have x1:=bt.c1;have x3:=bt.c3;have x4:=bt.c4;have x5:=bt.c5;have z0:=bs.c0;rw [hk0] at *
 rcases hk with hk|hk|hk|hk|hk
 ·have HN:Hid (Zac xs c a []=look c a.name):=hQ (by unfold Zac;rw [if_pos hk])
  rw [hk] at HW1 x0 ⊢;clear hk;clear hs hc h hcw hwT hsw hsp hT hW1 bs bt br hb1 hs1 hk0 hsl hsd;go_enter Tryz.func102,Tryz.ntmps102;go_wp2_with fail;rw [HW1.out];go_wp2_with fail;refine HLK.out.mono ?_;rintro e w3 hmade;have hb3:Below W1.heap.size W1 w3:=by
   obtain ⟨_,_,_,_,_,_,_,_,hb3⟩:=hmade;exact hb3
  have HBX:=hQ (BR.out.under hb3 BR.out.lt);have HM:=hQ (fun (U:World) (hU:w3.grownBy U (some (H+1+1)))=>Zdv (w:=w) (U:=U) hmade HB1.out (by have:=HS1.out;omega) (by have:=HH.out;omega) hU);obtain ⟨LL,AA,lc,dd,rfl,_⟩:=HM.out w3 (gQ);have HM2:Hid (∀ U:World,w3.grownBy U (some (H+1+1))->Zau (Zac xs c a []) w (.returned (.tuple #[.agg #[.int .i64 (optP (look c a.name)).1.top.kind,.slice LL (optP (look c a.name)).1.top.labels.length lc,.slice AA (optP (look c a.name)).1.kids.length dd],.bool (optP (look c a.name)).2])) U):=hQ (by
   intro U hU
   obtain ⟨L9,A9,c9,d9,e9,h9⟩:=HM.out U hU;injection e9 with e9
   rw [<-e9] at h9;exact (fun h=>by rw [HN.out];exact Zol h) h9)
  generalize (optP (look c a.name)).1.top.kind=y0 at HM2 ⊢;generalize (optP (look c a.name)).1.top.labels.length=y1 at HM2 ⊢;generalize (optP (look c a.name)).1.kids.length=y2 at HM2 ⊢;generalize (optP (look c a.name)).2=bb at HM2 ⊢;have bn:=Box3.new w3 38 (.int .i64 y0) (.slice LL y1 lc) (.slice AA y2 dd);have n0:=bn.c0;have n1:=bn.c1;have n2:=bn.c2;have HBA:=hQ (HBX.out.alloc (.cells #[.int .i64 y0,.slice LL y1 lc,.slice AA y2 dd] 38));have r0:=HBA.out.c0;have r1:=HBA.out.c1;have r2:=HBA.out.c2;have s0:=HBA.out.free 0;have s1:=HBA.out.free 1;have s2:=HBA.out.free 2;clear hmade hb3 HM bn;go_wp2_with fail;generalize hU:(((w3.alloc (.cells #[.int .i64 y0,.slice LL y1 lc,.slice AA y2 dd] 38)).setCell ⟨H+1+1,0,none⟩ (.int .i64 y0)).setCell ⟨H+1+1,1,none⟩ (.slice LL y1 lc)).setCell ⟨H+1+1,2,none⟩ (.slice AA y2 dd)=U;have hgU:w3.grownBy U (some (H+1+1)):=by rw [<-hU];exact Zaa (Zaa (Zaa (Zbk _ _) _) _) _
  have u1:Box3 U (H+1+1) 38 (.int .i64 y0) (.slice LL y1 lc) (.slice AA y2 dd):=by
   rw [<-hU];exact ((HBA.out.set0 _).set1 _).set2 _
  have HRR:=hQ (HM2.out U hgU);have t0:=u1.c0;have t1:=u1.c1;have t2:=u1.c2;clear hU hgU u1 r0 r1 r2 s0 s1 s2 n0 n1 n2;exact bodyPost_ret (v:=.tuple #[.agg #[.int .i64 y0,.slice LL y1 lc,.slice AA y2 dd],.bool bb]) (by simp [results,Tryz.results102,go_sem,t0,t1,t2]) rfl HRR.out
 ·have HN:Hid (Zac xs c a []=some tyInt):=hQ (by unfold Zac;rw [if_neg (by rw [hk];decide)];rw [if_pos hk])
  rw [hk] at HW1 x0 ⊢;clear hk;clear hs hc h hcw hwT hsw hsp hT hW1 bs bt br hb1 hs1 hk0 hsl hsd;go_enter Tryz.func102,Tryz.ntmps102;go_wp2_with fail;rw [HW1.out];go_wp2_with fail;have HC:=hQ (show Calls Tryz.prog _ #[] W1 (MadeT tyInt W1) from Zgy W1);refine HC.out.mono ?_;rintro e w3 hmade;have hb3:Below W1.heap.size W1 w3:=by
   obtain ⟨_,_,_,_,_,_,_,_,hb3⟩:=hmade;exact hb3
  have HBX:=hQ (BR.out.under hb3 BR.out.lt);have HM:=hQ (fun (U:World) (hU:w3.grownBy U (some (H+1+1)))=>Zcz (b:=true) (w:=w) (U:=U) hmade HB1.out (by have:=HS1.out;omega) (by have:=HH.out;omega) hU);obtain ⟨LL,AA,lc,dd,rfl,_⟩:=HM.out w3 (gQ);have HM2:Hid (∀ U:World,w3.grownBy U (some (H+1+1))->Zau (Zac xs c a []) w (.returned (.tuple #[.agg #[.int .i64 (tyInt).top.kind,.slice LL (tyInt).top.labels.length lc,.slice AA (tyInt).kids.length dd],.bool true])) U):=hQ (by
   intro U hU
   obtain ⟨L9,A9,c9,d9,e9,h9⟩:=HM.out U hU;injection e9 with e9
   rw [<-e9] at h9;exact HN.out ▸ Zck h9)
  have r0:=HBX.out.c0;have r1:=HBX.out.c1;have r2:=HBX.out.c2;have s0:=HBX.out.free 0;have s1:=HBX.out.free 1;have s2:=HBX.out.free 2;generalize (tyInt).top.kind=y0 at HM2 ⊢;generalize (tyInt).top.labels.length=y1 at HM2 ⊢;generalize (tyInt).kids.length=y2 at HM2 ⊢;clear hmade hb3 HM;go_wp2_with fail;generalize hU:((w3.setCell ⟨H+1+1,0,none⟩ (.int .i64 y0)).setCell ⟨H+1+1,1,none⟩ (.slice LL y1 lc)).setCell ⟨H+1+1,2,none⟩ (.slice AA y2 dd)=U;have hgU:w3.grownBy U (some (H+1+1)):=by rw [<-hU];exact Zaa (Zaa (Zaa (gQ) _) _) _
  have u1:Box3 U (H+1+1) 38 (.int .i64 y0) (.slice LL y1 lc) (.slice AA y2 dd):=by
   rw [<-hU];exact ((HBX.out.set0 _).set1 _).set2 _
  have HRR:=hQ (HM2.out U hgU);have t0:=u1.c0;have t1:=u1.c1;have t2:=u1.c2;clear hU hgU u1 r0 r1 r2 s0 s1 s2;exact bodyPost_ret (v:=.tuple #[.agg #[.int .i64 y0,.slice LL y1 lc,.slice AA y2 dd],.bool true]) (by simp [results,Tryz.results102,go_sem,t0,t1,t2]) rfl HRR.out
 ·have HN:Hid (Zac xs c a []=some Zah):=hQ (by unfold Zac;(iterate 2 rw [if_neg (by rw [hk];decide)]);rw [if_pos hk])
  rw [hk] at HW1 x0 ⊢;clear hk;clear hs hc h hcw hwT hsw hsp hT hW1 bs bt br hb1 hs1 hk0 hsl hsd;go_enter Tryz.func102,Tryz.ntmps102;go_wp2_with fail;rw [HW1.out];go_wp2_with fail;have HC:=hQ (show Calls Tryz.prog _ #[] W1 (MadeT Zah W1) from Zdc W1);refine HC.out.mono ?_;rintro e w3 hmade;have hb3:Below W1.heap.size W1 w3:=by
   obtain ⟨_,_,_,_,_,_,_,_,hb3⟩:=hmade;exact hb3
  have HBX:=hQ (BR.out.under hb3 BR.out.lt);have HM:=hQ (fun (U:World) (hU:w3.grownBy U (some (H+1+1)))=>Zcz (b:=true) (w:=w) (U:=U) hmade HB1.out (by have:=HS1.out;omega) (by have:=HH.out;omega) hU);obtain ⟨LL,AA,lc,dd,rfl,_⟩:=HM.out w3 (gQ);have HM2:Hid (∀ U:World,w3.grownBy U (some (H+1+1))->Zau (Zac xs c a []) w (.returned (.tuple #[.agg #[.int .i64 (Zah).top.kind,.slice LL (Zah).top.labels.length lc,.slice AA (Zah).kids.length dd],.bool true])) U):=hQ (by
   intro U hU
   obtain ⟨L9,A9,c9,d9,e9,h9⟩:=HM.out U hU;injection e9 with e9
   rw [<-e9] at h9;exact HN.out ▸ Zck h9)
  have r0:=HBX.out.c0;have r1:=HBX.out.c1;have r2:=HBX.out.c2;have s0:=HBX.out.free 0;have s1:=HBX.out.free 1;have s2:=HBX.out.free 2;generalize (Zah).top.kind=y0 at HM2 ⊢;generalize (Zah).top.labels.length=y1 at HM2 ⊢;generalize (Zah).kids.length=y2 at HM2 ⊢;clear hmade hb3 HM;go_wp2_with fail;generalize hU:((w3.setCell ⟨H+1+1,0,none⟩ (.int .i64 y0)).setCell ⟨H+1+1,1,none⟩ (.slice LL y1 lc)).setCell ⟨H+1+1,2,none⟩ (.slice AA y2 dd)=U;have hgU:w3.grownBy U (some (H+1+1)):=by rw [<-hU];exact Zaa (Zaa (Zaa (gQ) _) _) _
  have u1:Box3 U (H+1+1) 38 (.int .i64 y0) (.slice LL y1 lc) (.slice AA y2 dd):=by
   rw [<-hU];exact ((HBX.out.set0 _).set1 _).set2 _
  have HRR:=hQ (HM2.out U hgU);have t0:=u1.c0;have t1:=u1.c1;have t2:=u1.c2;clear hU hgU u1 r0 r1 r2 s0 s1 s2;exact bodyPost_ret (v:=.tuple #[.agg #[.int .i64 y0,.slice LL y1 lc,.slice AA y2 dd],.bool true]) (by simp [results,Tryz.results102,go_sem,t0,t1,t2]) rfl HRR.out
 ·have HN:Hid (Zac xs c a []=some (tyBag a.type)):=hQ (by unfold Zac;(iterate 6 rw [if_neg (by rw [hk];decide)]);rw [if_pos hk])
  rw [hk] at HW1 x0 ⊢;clear hk;clear hs hc h hcw hwT hsw hsp hT hW1 bs bt br hb1 hs1 hk0 hsl hsd;go_enter Tryz.func102,Tryz.ntmps102;go_wp2_with fail;rw [HW1.out];go_wp2_with fail;have HC:=hQ (show Calls Tryz.prog _ _ W1 (MadeT (tyBag a.type) W1) from HBG.out);refine HC.out.mono ?_;rintro e w3 hmade;have hb3:Below W1.heap.size W1 w3:=by
   obtain ⟨_,_,_,_,_,_,_,_,hb3⟩:=hmade;exact hb3
  have HBX:=hQ (BR.out.under hb3 BR.out.lt);have HM:=hQ (fun (U:World) (hU:w3.grownBy U (some (H+1+1)))=>Zcz (b:=true) (w:=w) (U:=U) hmade HB1.out (by have:=HS1.out;omega) (by have:=HH.out;omega) hU);obtain ⟨LL,AA,lc,dd,rfl,_⟩:=HM.out w3 (gQ);have HM2:Hid (∀ U:World,w3.grownBy U (some (H+1+1))->Zau (Zac xs c a []) w (.returned (.tuple #[.agg #[.int .i64 (tyBag a.type).top.kind,.slice LL (tyBag a.type).top.labels.length lc,.slice AA (tyBag a.type).kids.length dd],.bool true])) U):=hQ (by
   intro U hU
   obtain ⟨L9,A9,c9,d9,e9,h9⟩:=HM.out U hU;injection e9 with e9
   rw [<-e9] at h9;exact HN.out ▸ Zck h9)
  have r0:=HBX.out.c0;have r1:=HBX.out.c1;have r2:=HBX.out.c2;have s0:=HBX.out.free 0;have s1:=HBX.out.free 1;have s2:=HBX.out.free 2;generalize (tyBag a.type).top.kind=y0 at HM2 ⊢;generalize (tyBag a.type).top.labels.length=y1 at HM2 ⊢;generalize (tyBag a.type).kids.length=y2 at HM2 ⊢;clear hmade hb3 HM;go_wp2_with fail;generalize hU:((w3.setCell ⟨H+1+1,0,none⟩ (.int .i64 y0)).setCell ⟨H+1+1,1,none⟩ (.slice LL y1 lc)).setCell ⟨H+1+1,2,none⟩ (.slice AA y2 dd)=U;have hgU:w3.grownBy U (some (H+1+1)):=by rw [<-hU];exact Zaa (Zaa (Zaa (gQ) _) _) _
  have u1:Box3 U (H+1+1) 38 (.int .i64 y0) (.slice LL y1 lc) (.slice AA y2 dd):=by
   rw [<-hU];exact ((HBX.out.set0 _).set1 _).set2 _
  have HRR:=hQ (HM2.out U hgU);have t0:=u1.c0;have t1:=u1.c1;have t2:=u1.c2;clear hU hgU u1 r0 r1 r2 s0 s1 s2;exact bodyPost_ret (v:=.tuple #[.agg #[.int .i64 y0,.slice LL y1 lc,.slice AA y2 dd],.bool true]) (by simp [results,Tryz.results102,go_sem,t0,t1,t2]) rfl HRR.out
 ·have HN:Hid (Zac xs c a []=ifAny (Zai xs a.name).2 (tyBag (Zai xs a.name).1)):=hQ (by unfold Zac;(iterate 11 rw [if_neg (by rw [hk];decide)]);rw [if_pos hk])
  rw [hk] at HW1 x0 ⊢;clear hk;clear hs hc h hcw hwT hsw hsp hT hW1 bs bt br hb1 hs1 hk0 hsl hsd;go_enter Tryz.func102,Tryz.ntmps102;go_wp2_with fail;rw [HW1.out];go_wp2_with fail;refine HRT.out.mono ?_;rintro e w3 hmade;obtain ⟨LL,AA,lc,dd,fp3,rfl,ho3,hf3,hb3⟩:=hmade;have HBX:=hQ (BR.out.under hb3 BR.out.lt);have HB3:=hQ (HB1.out.trans (hb3.mono HB1.out.size));have hs3:=hb3.size;have hal:Below w3.heap.size w3 (w3.alloc (.cells #[.int .i64 (Zai xs a.name).1.top.kind,.slice LL (Zai xs a.name).1.top.labels.length lc,.slice AA (Zai xs a.name).1.kids.length dd] 38)):=bQ.alloc nQ _;have HC2:=hQ (show Calls Tryz.prog _ _ _ (MadeT (tyBag (Zai xs a.name).1) _) from Zka (Zai xs a.name).1 _ _ ((OTy.reads ho3).keep hal) HRW.out);obtain ⟨p,hp⟩:∃ p,Zai xs a.name=p:=⟨_,rfl⟩;rw [hp] at HN hal HC2 ⊢;obtain ⟨V,hV⟩:∃ V,w3.alloc (.cells #[.int .i64 p.1.top.kind,.slice LL p.1.top.labels.length lc,.slice AA p.1.kids.length dd] 38)=V:=⟨_,rfl⟩;have bn:=Box3.new w3 38 (.int .i64 p.1.top.kind) (.slice LL p.1.top.labels.length lc) (.slice AA p.1.kids.length dd);have n0:=bn.c0;have n1:=bn.c1;have n2:=bn.c2;rw [hV] at hal HC2;have HB4:=hQ (HB3.out.trans (hal.mono HB3.out.size));have BR4:=hQ (HBX.out.under hal HBX.out.lt);have HS4:Hid (H+3<=V.heap.size):=hQ (by have:=hal.size;have:=HS1.out;omega);have HV:=hQ hV;obtain ⟨bb,hbb⟩:∃ bb,p.2=bb:=⟨_,rfl⟩;rw [hbb] at HN ⊢;generalize p.1.top.kind=m0 at *
  generalize p.1.top.labels.length=m1 at *
  generalize p.1.kids.length=m2 at *
  clear hal hV ho3 hf3 hb3 bn hs3 hp hbb;go_wp2_with fail;rw [HV.out];refine HC2.out.mono ?_;rintro e w5 hmade;have hb3:Below V.heap.size V w5:=by
   obtain ⟨_,_,_,_,_,_,_,_,hb3⟩:=hmade;exact hb3
  have HBX:=hQ (BR4.out.under hb3 BR4.out.lt);have HM:=hQ (fun (U:World) (hU:w5.grownBy U (some (H+1+1)))=>Zcz (b:=bb) (w:=w) (U:=U) hmade HB4.out (by have:=HS4.out;omega) (by have:=HH.out;omega) hU);obtain ⟨LL,AA,lc,dd,rfl,_⟩:=HM.out w5 (gQ);have HM2:Hid (∀ U:World,w5.grownBy U (some (H+1+1))->Zau (Zac xs c a []) w (.returned (.tuple #[.agg #[.int .i64 (tyBag p.1).top.kind,.slice LL (tyBag p.1).top.labels.length lc,.slice AA (tyBag p.1).kids.length dd],.bool bb])) U):=hQ (by
   intro U hU
   obtain ⟨L9,A9,c9,d9,e9,h9⟩:=HM.out U hU;injection e9 with e9
   rw [<-e9] at h9;exact HN.out ▸ Zen h9)
  have r0:=HBX.out.c0;have r1:=HBX.out.c1;have r2:=HBX.out.c2;have s0:=HBX.out.free 0;have s1:=HBX.out.free 1;have s2:=HBX.out.free 2;generalize (tyBag p.1).top.kind=y0 at HM2 ⊢;generalize (tyBag p.1).top.labels.length=y1 at HM2 ⊢;generalize (tyBag p.1).kids.length=y2 at HM2 ⊢;clear hmade hb3 HM;go_wp2_with fail;generalize hU:((w5.setCell ⟨H+1+1,0,none⟩ (.int .i64 y0)).setCell ⟨H+1+1,1,none⟩ (.slice LL y1 lc)).setCell ⟨H+1+1,2,none⟩ (.slice AA y2 dd)=U;have hgU:w5.grownBy U (some (H+1+1)):=by rw [<-hU];exact Zaa (Zaa (Zaa (gQ) _) _) _
  have u1:Box3 U (H+1+1) 38 (.int .i64 y0) (.slice LL y1 lc) (.slice AA y2 dd):=by
   rw [<-hU];exact ((HBX.out.set0 _).set1 _).set2 _
  have HRR:=hQ (HM2.out U hgU);have t0:=u1.c0;have t1:=u1.c1;have t2:=u1.c2;clear hU hgU u1 r0 r1 r2 s0 s1 s2;exact bodyPost_ret (v:=.tuple #[.agg #[.int .i64 y0,.slice LL y1 lc,.slice AA y2 dd],.bool bb]) (by simp [results,Tryz.results102,go_sem,t0,t1,t2]) rfl HRR.out
def Zbe (F:List Nat)(o:Option Ty)(w:World)(e:Ending)(w':World):Prop:=
 ∃ (t:Ty) (L A:Option Addr) (c d:Nat) (fp:List Nat),(∀ u,o=some u->t=u)/\e=.returned (.tuple #[.agg #[.int .i64 t.top.kind,.slice L t.top.labels.length c,.slice A t.kids.length d],.bool o.isSome])/\
  OTy w' t [.int .i64 t.top.kind,.slice L t.top.labels.length c,.slice A t.kids.length d] fp/\(∀ b∈fp,b∈F∨(w.heap.size<=b/\b < w'.heap.size))/\Below w.heap.size w w'
theorem Zch {F:List Nat}{o:Option Ty}{w:World}{e:Ending}{w':World}(h:Zau o w e w'):Zbe F o w e w':=by
 obtain ⟨t,h1,L,A,c,d,fp,h2,h3,h4,h5⟩:=h;exact ⟨t,L,A,c,d,fp,h1,h2,h3,fun b hb=>.inr (h4 b hb),h5⟩
theorem Zgc {F fp:List Nat}{b:Bool}{t:Ty}{w W U:World}{G:Nat}{L A:Option Addr}{c d:Nat}(ho:OTy w t [.int .i64 t.top.kind,.slice L t.top.labels.length c,.slice A t.kids.length d] fp)(hF:∀ x∈fp,x∈F)(hlt:∀ x∈fp,x < w.heap.size)(hb:Below w.heap.size w W)(hG:w.heap.size<=G)(hU:W.grownBy U (some G)) :
  Zbe F (ifAny b t) w (.returned (.tuple #[.agg #[.int .i64 t.top.kind,.slice L t.top.labels.length c,.slice A t.kids.length d],.bool b])) U:=by
 refine ⟨t,L,A,c,d,fp,fun u hu=>(Zbp hu).1,by rw [Zrz],(ho.under hb).keep hU (fun x hx e=>by injection e with e;have:=hlt x hx;omega),fun x hx=>.inl (hF x hx),hb.grown hU hb.size (fun k hk=>by injection hk with hk;omega)⟩
theorem Zty {p:Ty×Bool}{w W2 w3 V U:World}{e:Ending}{G N:Nat}(h:MadeP p W2 e w3)(hb:Below w.heap.size w W2)(hG:G < W2.heap.size)(hN:N < W2.heap.size)(hwG:w.heap.size<=G)(hwN:w.heap.size<=N)(hV:w3.grownBy V (some N))(hU:V.grownBy U (some G)) :
  ∃ (L A:Option Addr) (c d:Nat),e=.returned (.tuple #[.agg #[.int .i64 p.1.top.kind,.slice L p.1.top.labels.length c,.slice A p.1.kids.length d],.bool p.2])/\
   MadeP p w (.returned (.tuple #[.agg #[.int .i64 p.1.top.kind,.slice L p.1.top.labels.length c,.slice A p.1.kids.length d],.bool p.2])) U:=by
 obtain ⟨L,A,c,d,fp,rfl,hot,hfp,hb3⟩:=h;have hs:=hb.size;have hsV:=hV.size;have hsU:=hU.size;have hs3:=hb3.size;refine ⟨L,A,c,d,rfl,L,A,c,d,fp,rfl,(hot.keep hV (fun b hm e=>by injection e with e;have:=(hfp b hm).1;omega)).keep hU (fun b hm e=>by injection e with e;have:=(hfp b hm).1;omega),fun b hm=>?_,((hb.trans (hb3.mono hs)).grown hV (by omega) (fun k hk=>by injection hk with hk;omega)).grown hU (by omega) (fun k hk=>by injection hk with hk;omega)⟩
 have:=hfp b hm
 omega
theorem Zbi {w:World}{t:Ty}{cs:List Value}{fp:List Nat}(h:OTy w t cs fp):∀ b∈fp,b < w.heap.size:=by
 induction h with
 | node a ks L A c d xs fs ha hl hk hx hkids hnd ih=>
  intro b hb
  rcases List.mem_append.1 hb with hb|hb
  ·rcases List.mem_append.1 hb with hb|hb
   ·exact (hl.lt b ((Zam L _ c b).2 hb)).2
   ·exact (hx.lt b ((Zam A _ d b).2 hb)).2
  ·obtain ⟨j,hj,hm⟩:=List.mem_flatMap.1 hb
   have hjl:=List.mem_range.1 hj;exact ih j _ (List.getElem?_eq_getElem hjl) b hm
theorem Zgr {w:World}{ts:List Ty}{A:Option Addr}{n d:Nat}{fp:List Nat}(h:OL kTy 38 w ts (.slice A n d) fp)(hn:0 < ts.length):∃ g,A=some ⟨g,0,none⟩/\g∈fp/\∀ k (hk:k < ts.length),∃ (L B:Option Addr)(c e:Nat)(f:List Nat),w.cell? ⟨g,k * 3,none⟩=some (.int .i64 ts[k].top.kind)/\w.cell? ⟨g,k * 3+1,none⟩=some (.slice L ts[k].top.labels.length c)/\w.cell? ⟨g,k * 3+2,none⟩=some (.slice B ts[k].kids.length e)/\
  OTy w ts[k] [.int .i64 ts[k].top.kind,.slice L ts[k].top.labels.length c,.slice B ts[k].kids.length e] f/\(∀ b∈f,b∈fp)/\g∉f:=by
 obtain ⟨rfl,cells,fs,h1,hrow,hO,hfp,hnd⟩:=h.parts;obtain ⟨g,rfl⟩:∃ g,A=some ⟨g,0,none⟩:=by
  rcases hrow.2 with ⟨_,h2⟩|⟨g,cap,cur,h1,_⟩
  ·omega
  ·injection h1 with h1 _ _
   exact ⟨g,h1⟩
 refine ⟨g,rfl,by rw [hfp];simp [blk],fun k hk=>?_⟩;have ho:OTy w ts[k] (partK 3 cells k) (fs k):=hO k _ (List.getElem?_eq_getElem hk);obtain ⟨tk,TL,TA,tl,tc,ta,td,hcs⟩:=Zfo (kTy.reads ho);have hr:=OTy.reads ho;rw [hcs] at hr ho;obtain ⟨L,c,B,e,he⟩:∃ L c B e,[Value.int .i64 tk,.slice TL tl tc,.slice TA ta td]=[.int .i64 ts[k].top.kind,.slice L ts[k].top.labels.length c,.slice B ts[k].kids.length e]:=by
  obtain ⟨a,ks,hnode⟩:∃ a ks,ts[k]=.node a ks:=⟨_,_,(match ts[k] with|.node a ks=>rfl:ts[k]=.node ts[k].top ts[k].kids)⟩;rw [hnode] at hr ⊢;obtain ⟨L,c,B,e,he,_⟩:=hr.out;exact ⟨L,c,B,e,he⟩
 have hcl:cells.length=ts.length * 3:=hrow.1;have hat:∀ i,i < 3->w.cell? ⟨g,k * 3+i,none⟩=[Value.int .i64 tk,.slice TL tl tc,.slice TA ta td][i]?:=fun i hi=>by
  rw [<-hcs,Zeq _ _ _ _ hi];exact hrow.cellAt (k * 3+i) (show k * 3+i < ts.length * 3 by omega)
 rw [he] at hat ho;refine ⟨L,B,c,e,fs k,hat 0 (by omega),hat 1 (by omega),hat 2 (by omega),ho,fun b hb=>?_,fun hb=>?_⟩
 ·rw [hfp];exact List.mem_append.2 (.inr (List.mem_flatMap.2 ⟨k,List.mem_range.2 hk,hb⟩))
 ·rw [hfp] at hnd
  exact (List.nodup_append.1 hnd).2.2 g (by simp [blk]) g (List.mem_flatMap.2 ⟨k,List.mem_range.2 hk,hb⟩) rfl
theorem Zsg {w:World}{t:Ty}{a b:Value}{B:Option Addr}{n e:Nat}{f:List Nat}(h:OTy w t [a,b,.slice B n e] f):n=t.kids.length/\∃ fpK,OL kTy 38 w t.kids (.slice B t.kids.length e) fpK:=by
 generalize hcs:[a,b,Value.slice B n e]=cs at h;cases h with
 | node q ks L A c d xs fs h0 h1 h2 h3 h4 h5=>
  injection hcs with _ hcs
  injection hcs with _ hcs
  injection hcs with hcs _
  injection hcs with e1 e2 e3
  subst e1 e2 e3;have h6:=List.nodup_append.1 h5;have h7:=List.nodup_append.1 h6.1;refine ⟨rfl,blk B ++ (List.range ks.length).flatMap fs,B,e,xs,fs,rfl,h2,h3,h4,rfl,List.nodup_append.2 ⟨h7.2.1,h6.2.1,fun x hx y hy=>h6.2.2 x (List.mem_append.2 (.inr hx)) y hy⟩⟩
theorem Zpl {t:Ty}(h:Zae t=true)(hk:t.top.kind=5):∃ u v,t.kids=[u,v]:=by
 obtain ⟨a,ks⟩:=t;have hk:a.kind=5:=hk;unfold Zae at h;simp only [Bool.and_eq_true] at h;have h1:=h.2.2;rw [Zcr] at h1;simp only [Bool.and_eq_true] at h1;have h2:=h1.2;unfold formA at h2;rw [if_neg (by omega)] at h2;simp only [Bool.and_eq_true,decide_eq_true_eq] at h2;have h3:=h2.2.2;rw [hk] at h3;have h4:ks.length=2:=by
  have:want 5=2:=rfl
  omega
 match ks,h4 with
 | [u,v],_=>exact ⟨u,v,rfl⟩
theorem Zxp {w:World}{ts:List Ty}{A:Option Addr}{n d:Nat}{fp:List Nat}(h:OL kTy 38 w ts (.slice A n d) fp):RKids w A ts:=by
 obtain ⟨A',d',h1,_,_,h2⟩:=h.reads;injection h1 with h1 _ _
 subst h1;exact h2
theorem Zsx {q:Int}(h:q≠5)(v:Value)(w:World):(Instr.typeAssert (.iface (kindT q) v) 135 168 true).run Tryz.prog w=.ok (.tuple #[.agg #[.int .i64 0,.slice none 0 0,.slice none 0 0],.bool false]) w:=by
 rcases Zem q with (rfl|rfl|rfl|rfl|rfl)|hk
 ·exact Zrr v w
 ·exact Zrs v w
 ·exact Zrt v w
 ·exact Zru v w
 ·exact absurd rfl h
 ·rw [hk];exact Zrw v w
def Zabw (K:Nat->Prop)(t:Ty)(w:World)(e:Ending)(w':World):Prop:=Below w.heap.size w w'/\∃ (k:Int)(L:Option Addr)(n c:Nat)(A:Option Addr)(m d:Nat),e=.returned (.agg #[.int .i64 k,.slice L n c,.slice A m d])/\RTy (veil K w') t [.int .i64 k,.slice L n c,.slice A m d]
theorem Zgn (K:Nat->Prop)(t:Ty)(k:Int)(L A:Option Addr)(n c m d:Nat)(w:World)(hK:∀ i,w.heap.size<=i->K i)(h:RTy (veil K w) t [.int .i64 k,.slice L n c,.slice A m d]):Calls Tryz.prog 114 #[.agg #[.int .i64 k,.slice L n c,.slice A m d]] w (Zabw K (tyBag t) w):=by
 obtain ⟨W1,hW1⟩:∃ W1,(w.alloc (.cells #[.int .i64 k,.slice L n c,.slice A m d] 38)).alloc (.cells #[.int .i64 0,.slice none 0 0,.slice none 0 0] 38)=W1:=⟨_,rfl⟩;obtain ⟨H,hH⟩:∃ H,w.heap.size=H:=⟨_,rfl⟩;have HH:=hQ hH;have HR:=hQ h;clear h hW1;go_enter Tryz.func114,Tryz.ntmps114;go_wp2_with fail;generalize hU:((w.alloc (.cells #[.int .i64 k,.slice L n c,.slice A m d] 38)).alloc (.cells #[.int .i64 4,.slice none 0 0,.slice (some ⟨H+1+1,0,none⟩) 1 1] 38)).alloc (.cells #[.int .i64 k,.slice L n c,.slice A m d] 38)=U;have hbU:Below w.heap.size w U:=by rw [<-hU];exact ((bQ.alloc nQ _).alloc (by simp) _).alloc (by simp;omega) _
 have b1:Box3 U (H+1) 38 (.int .i64 4) (.slice none 0 0) (.slice (some ⟨H+1+1,0,none⟩) 1 1):=by
  rw [<-hU,<-HH.out]
  have:=(Box3.new (w.alloc (.cells #[.int .i64 k,.slice L n c,.slice A m d] 38)) 38 (.int .i64 4) (.slice none 0 0) (.slice (some ⟨w.heap.size+1+1,0,none⟩) 1 1)).alloc (.cells #[.int .i64 k,.slice L n c,.slice A m d] 38)
  simpa using this
 have b2:Box3 U (H+1+1) 38 (.int .i64 k) (.slice L n c) (.slice A m d):=by
  rw [<-hU,<-HH.out]
  have:=Box3.new ((w.alloc (.cells #[.int .i64 k,.slice L n c,.slice A m d] 38)).alloc (.cells #[.int .i64 4,.slice none 0 0,.slice (some ⟨w.heap.size+1+1,0,none⟩) 1 1] 38)) 38 (.int .i64 k) (.slice L n c) (.slice A m d)
  simpa using this
 have HRR:Hid (Zabw K (tyBag t) w (.returned (.agg #[.int .i64 4,.slice none 0 0,.slice (some ⟨H+1+1,0,none⟩) 1 1])) U):=hQ ⟨hbU,4,none,0,0,some ⟨H+1+1,0,none⟩,1,1,rfl,Zhp (a:=⟨4,[]⟩) (ks:=[t]) (fun j u hj=>by simp at hj) ⟨by decide,by decide,by simp,by simp⟩ (by simp) (by simp) (Zaag (HR.out.sub (Sub.held (Held.of_below hbU fun i hi _=>hi) fun _ _ h=>h)) fun i u hi=>by
  match i,hi with
  | 0,hi=>simp at hi;subst hi;exact Zbg (hK _ (by show w.heap.size<=H+1+1;have:=HH.out;omega)) b2.c0
  | 1,hi=>simp at hi;subst hi;exact Zbg (hK _ (by show w.heap.size<=H+1+1;have:=HH.out;omega)) b2.c1
  | 2,hi=>simp at hi;subst hi;exact Zbg (hK _ (by show w.heap.size<=H+1+1;have:=HH.out;omega)) b2.c2)⟩
 have tt0:=b1.c0;have tt1:=b1.c1;have tt2:=b1.c2;clear hU b1 b2 hbU;exact bodyPost_ret (v:=.agg #[.int .i64 4,.slice none 0 0,.slice (some ⟨H+1+1,0,none⟩) 1 1]) (by simp [results,Tryz.results114,go_sem,tt0,tt1,tt2]) rfl HRR.out
theorem Zwo (K:Nat->Prop)(f x:Ty)(w:World)(cs ds:List Value)(ev:Value)(hg:RTy (veil K w) f cs)(hg':RTy (veil K w) x ds)(hv:Zae f=true)(he:ErrAt ev w):Calls Tryz.prog 117 #[.agg cs.toArray,.agg ds.toArray] w (PostK K (appT f x) ev w):=by
 have h:=hg.sub (Sub.veil K w);have h':=hg'.sub (Sub.veil K w);obtain ⟨a,ks⟩:=f;obtain ⟨L,c,A,d,rfl,_,_,_,_,_,_,hp⟩:=h.out;obtain ⟨dk,L2,n2,c2,A2,m2,d2,rfl⟩:=RTy.shape h';obtain ⟨W1,hW1⟩:∃ W1,((w.alloc (.cells #[.int .i64 a.kind,.slice L a.labels.length c,.slice A ks.length d] 38)).alloc (.cells #[.int .i64 dk,.slice L2 n2 c2,.slice A2 m2 d2] 38)).alloc (.cells #[.int .i64 0,.slice none 0 0,.slice none 0 0] 38)=W1:=⟨_,rfl⟩;obtain ⟨H,hH⟩:∃ H,w.heap.size=H:=⟨_,rfl⟩;have b0:Box3 W1 H 38 (.int .i64 a.kind) (.slice L a.labels.length c) (.slice A ks.length d):=by rw [<-hW1,<-hH];exact ((Box3.new w _ _ _ _).alloc _).alloc _
 have b1:Box3 W1 (H+1) 38 (.int .i64 dk) (.slice L2 n2 c2) (.slice A2 m2 d2):=by
  rw [<-hW1,<-hH]
  have:=(Box3.new (w.alloc (.cells #[.int .i64 a.kind,.slice L a.labels.length c,.slice A ks.length d] 38)) 38 (.int .i64 dk) (.slice L2 n2 c2) (.slice A2 m2 d2)).alloc (.cells #[.int .i64 0,.slice none 0 0,.slice none 0 0] 38)
  simpa using this
 have br:Box3 W1 (H+1+1) 38 (.int .i64 0) (.slice none 0 0) (.slice none 0 0):=by
  rw [<-hW1,<-hH]
  have:=Box3.new ((w.alloc (.cells #[.int .i64 a.kind,.slice L a.labels.length c,.slice A ks.length d] 38)).alloc (.cells #[.int .i64 dk,.slice L2 n2 c2,.slice A2 m2 d2] 38)) 38 (.int .i64 0) (.slice none 0 0) (.slice none 0 0)
  simpa using this
 have hb1:Below w.heap.size w W1:=by rw [<-hW1];exact ((bQ.alloc nQ _).alloc (by simp) _).alloc (by simp;omega) _
 have HB1:=hQ hb1;have HH:=hQ hH;have HW1:=hQ hW1;have B1:=hQ b1;have BR:=hQ br;have HP:=hQ hp;have HE:=hQ he;have HV:=hQ hv;have HX:=hQ h';have HK:=hQ (Zdl a.kind (.slice L a.labels.length c) (.slice A ks.length d) W1);have x0:=b0.c0;have x1:=b0.c1;have x2:=b0.c2;clear h h' hg' he hv hW1 b0 b1 br hb1 hp;by_cases hk:a.kind=5
 ·obtain ⟨ua,ub,hu⟩:=Zpl HV.out hk
  have hu:ks=[ua,ub]:=hu;subst hu;have hl2:([ua,ub]:List Ty).length=2:=rfl;obtain ⟨au,pu,u0,u1,u2,eu,hpeu,hru,qu0,qu1,qu2⟩:=Zal HP.out bQ (k:=0) (by simp);subst eu;have hpeu:au=pu:=by rw [<-hpeu];rfl
  subst hpeu;have hru:RTy w ua [u0,u1,u2]:=hru;obtain ⟨ad2,pv,v0,v1,v2,ev2,hpev,hrv,qv0,qv1,qv2⟩:=Zal HP.out bQ (k:=1) (by simp);injection ev2 with ev2
  subst ev2;have hrv:RTy w ub [v0,v1,v2]:=hrv;have hkv:RTy (veil K w) ub [v0,v1,v2]:=by
   obtain ⟨L',c',A',d',e',_,_,_,_,_,_,hp'⟩:=hg.out;obtain ⟨ad',pv',v0',v1',v2',ev',hpev',hrv',qv0',qv1',qv2'⟩:=Zal hp' bQ (k:=1) (by simp);simp only [List.cons.injEq,Value.slice.injEq,and_true,true_and] at e';have hA:A'=some au:=by simp_all
   rw [hA] at ev';injection ev' with ev'
   subst ev';have hpp:pv'=pv:=by rw [<-hpev',<-hpev]
   subst hpp;have y0:=(Zad qv0').2;have y1:=(Zad qv1').2;have y2:=(Zad qv2').2;rw [qv0] at y0;rw [qv1] at y1;rw [qv2] at y2;injection y0 with y0
   injection y1 with y1
   injection y2 with y2
   subst y0 y1 y2;exact hrv'
  obtain ⟨q,L9,n9,c9,A9,m9,d9,rfl,rfl,rfl⟩:=hrv.shape3;have hpv:au.add 3=pv:=hpev;have HUP:Hid (∀ W,Below w.heap.size w W->W.cell? au=some u0/\W.cell? ⟨au.block,au.off+1,none⟩=some u1/\W.cell? ⟨au.block,au.off+2,none⟩=some u2/\W.cell? pv=some (.int .i64 q)/\W.cell? ⟨pv.block,pv.off+1,none⟩=some (.slice L9 n9 c9)/\W.cell? ⟨pv.block,pv.off+2,none⟩=some (.slice A9 m9 d9)):=hQ (fun W hB=>⟨uQ hB qu0,uQ hB qu1,uQ hB qu2,uQ hB qv0,uQ hB qv1,uQ hB qv2⟩);have hsz:ua.size<=1048577:=by
   have h1:Zae (Tr.node a [ua,ub])=true:=HV.out;unfold Zae at h1;simp only [Bool.and_eq_true,decide_eq_true_eq] at h1;have h2:(Tr.node a [ua,ub]).size=1+([ua,ub].map Tr.size).sum:=Tr.sum_node _ a _;simp at h2
   omega
  have HEQ:=hQ (fun (W:World) (hB:Below w.heap.size w W)=>Zcb ua x W _ _ (hru.keep hB) (HX.out.keep hB) hsz);have HRB:=hQ hkv;have HAP:Hid (appT (Tr.node a [ua,ub]) x=ifAny (same ua x) ub):=hQ (by unfold appT;rw [show (Tr.node a [ua,ub]:Ty).top.kind=5 from hk];rfl);have a1:=Zrv;rw [hk] at HW1 HK x0 ⊢;rw [hl2] at *
  unfold Zgf at HK;rw [show kindT 5=168 from rfl] at HK;clear hg hkv hk qu0 qu1 qu2 qv0 qv1 qv2 hru hrv hsz hpev hl2;go_enter Tryz.func117,Tryz.ntmps117;go_wp2_with fail;rw [HW1.out];refine HK.out.mono ?_;rintro e w2 ⟨rfl,hb2⟩;obtain ⟨W3,hW3⟩:∃ W3,w2.alloc (.cells #[.int .i64 5,.slice L a.labels.length c,.slice (some au) 2 d] 168)=W3:=⟨_,rfl⟩;have hb23:Below W1.heap.size W1 W3:=by rw [<-hW3];exact hb2.alloc hb2.size _
  have bk:=Box3.new w2 168 (.int .i64 5) (.slice L a.labels.length c) (.slice (some au) 2 d);rw [hW3] at bk;have BK:=hQ bk;have HB3:=hQ (HB1.out.trans (hb23.mono HB1.out.size));have B13:=hQ (B1.out.under hb23 B1.out.lt);have BR3:=hQ (BR.out.under hb23 BR.out.lt);have HW3:=hQ hW3;have HC:=hQ (HEQ.out W3.drew HB3.out.drew);obtain ⟨g0,g1,g2,g3,g4,g5⟩:=HUP.out W3 HB3.out;have y0:=B13.out.c0;have y1:=B13.out.c1;have y2:=B13.out.c2;have k2:=BK.out.c2;clear x0 x1 x2 hb2 hb23 hW3 bk HK HEQ;go_wp2_with fail;rw [HW3.out];have EQ3:=hQ (fun (W:World) (hB:Below w.heap.size w W)=>HE.out.keep hB);cases hs:same ua x
  ·have HPP:Hid (PostK K (appT (Tr.node a [ua,ub]) x) ev w=PostK K none ev w):=hQ (by rw [HAP.out,hs];rfl)
   rw [hs] at HC;clear hs;go_region_law (first | (go_simp;refine HC.out.mono ?_;rintro e w4 ⟨rfl,hb4⟩;have HB4:=hQ (HB3.out.drew.trans (hb4.mono HB3.out.drew.size));have BR4:=hQ (BR3.out.under (show Below W3.heap.size W3 w4 from (Below.refl W3.heap.size W3).drew.trans hb4) BR3.out.lt);have BK4:=BK.out.under (show Below W3.heap.size W3 w4 from (Below.refl W3.heap.size W3).drew.trans hb4) BK.out.lt;have B14:=B13.out.under (show Below W3.heap.size W3 w4 from (Below.refl W3.heap.size W3).drew.trans hb4) B13.out.lt;obtain ⟨m0,m1,m2,m3,m4,m5⟩:=HUP.out w4 HB4.out;have mk:=BK4.c2;have mx0:=B14.c0;have mx1:=B14.c1;have mx2:=B14.c2;clear hb4 BK4 B14));all_goals (
    clear g0 g1 g2 g3 g4 g5 y0 y1 y2 k2;have r0:=BR4.out.c0;have r1:=BR4.out.c1;have r2:=BR4.out.c2;have s0:=BR4.out.free 0;have s1:=BR4.out.free 1;have s2:=BR4.out.free 2;have ee:w4.cell? ⟨0,0,none⟩=some ev:=EQ3.out w4 HB4.out;go_wp2_with fail;go_region_law (fail);all_goals (
     go_wp2_with fail
     generalize hU:(((w4.setCell ⟨H+1+1,0,none⟩ (.int .i64 0)).setCell ⟨H+1+1,1,none⟩ (.slice none 0 0)).setCell ⟨H+1+1,2,none⟩ (.slice none 0 0)).drew=U;have hgU:w4.drew.grownBy U (some (H+1+1)):=by rw [<-hU];exact Zaa (Zaa (Zaa (gQ) _) _) _
     have u1:Box3 U (H+1+1) 38 (.int .i64 0) (.slice none 0 0) (.slice none 0 0):=by
      rw [<-hU];exact ((BR4.out.set0 _).set1 _).set2 _
     have hbU:Below w.heap.size w U:=HB4.out.drew.grown hgU HB4.out.drew.size (fun k hk=>by injection hk with hk;have:=HH.out;omega);have HRR:Hid (PostK K none ev w (.returned (.tuple #[.agg #[.int .i64 0,.slice none 0 0,.slice none 0 0],ev])) U):=hQ ⟨hbU,rfl⟩;have tt0:=u1.c0;have tt1:=u1.c1;have tt2:=u1.c2;clear hU hgU u1 hbU r0 r1 r2 s0 s1 s2 m0 m1 m2 m3 m4 m5 mk mx0 mx1 mx2 ee;exact bodyPost_ret (v:=.tuple #[.agg #[.int .i64 0,.slice none 0 0,.slice none 0 0],ev]) (by simp [results,Tryz.results117,go_sem,tt0,tt1,tt2]) rfl (by rw [HPP.out];exact HRR.out)))
  ·have HPP:Hid (PostK K (appT (Tr.node a [ua,ub]) x) ev w=PostK K (some ub) ev w):=hQ (by rw [HAP.out,hs];rfl)
   rw [hs] at HC;clear hs;go_region_law (first | (go_simp;refine HC.out.mono ?_;rintro e w4 ⟨rfl,hb4⟩;have HB4:=hQ (HB3.out.drew.trans (hb4.mono HB3.out.drew.size));have BR4:=hQ (BR3.out.under (show Below W3.heap.size W3 w4 from (Below.refl W3.heap.size W3).drew.trans hb4) BR3.out.lt);have BK4:=BK.out.under (show Below W3.heap.size W3 w4 from (Below.refl W3.heap.size W3).drew.trans hb4) BK.out.lt;have B14:=B13.out.under (show Below W3.heap.size W3 w4 from (Below.refl W3.heap.size W3).drew.trans hb4) B13.out.lt;obtain ⟨m0,m1,m2,m3,m4,m5⟩:=HUP.out w4 HB4.out;have mk:=BK4.c2;have mx0:=B14.c0;have mx1:=B14.c1;have mx2:=B14.c2;clear hb4 BK4 B14));all_goals (
    clear g0 g1 g2 g3 g4 g5 y0 y1 y2 k2;have r0:=BR4.out.c0;have r1:=BR4.out.c1;have r2:=BR4.out.c2;have s0:=BR4.out.free 0;have s1:=BR4.out.free 1;have s2:=BR4.out.free 2;go_wp2_with fail;generalize hU:((w4.setCell ⟨H+1+1,0,none⟩ (.int .i64 q)).setCell ⟨H+1+1,1,none⟩ (.slice L9 n9 c9)).setCell ⟨H+1+1,2,none⟩ (.slice A9 m9 d9)=U;have hgU:w4.grownBy U (some (H+1+1)):=by rw [<-hU];exact Zaa (Zaa (Zaa (gQ) _) _) _
    have u1:Box3 U (H+1+1) 38 (.int .i64 q) (.slice L9 n9 c9) (.slice A9 m9 d9):=by
     rw [<-hU];exact ((BR4.out.set0 _).set1 _).set2 _
    have hbU:Below w.heap.size w U:=HB4.out.grown hgU HB4.out.size (fun k hk=>by injection hk with hk;have:=HH.out;omega);have HRR:Hid (PostK K (some ub) ev w (.returned (.tuple #[.agg #[.int .i64 q,.slice L9 n9 c9,.slice A9 m9 d9],.nilIface])) U):=hQ ⟨hbU,q,L9,n9,c9,A9,m9,d9,rfl,HRB.out.sub (Sub.held (Held.of_below hbU fun i hi _=>hi) fun _ _ h=>h)⟩;have tt0:=u1.c0;have tt1:=u1.c1;have tt2:=u1.c2;clear hU hgU u1 hbU r0 r1 r2 s0 s1 s2 m0 m1 m2 m3 m4 m5 mk;exact bodyPost_ret (v:=.tuple #[.agg #[.int .i64 q,.slice L9 n9 c9,.slice A9 m9 d9],.nilIface]) (by simp [results,Tryz.results117,go_sem,tt0,tt1,tt2]) rfl (by rw [HPP.out];exact HRR.out))
 ·have HPP:Hid (PostK K (appT (Tr.node a ks) x) ev w=PostK K none ev w):=hQ (by unfold appT;rw [show decide ((Tr.node a ks:Ty).top.kind=5)=false from decide_eq_false hk];rfl)
  have a1:=Zsx hk;unfold Zgf at HK;generalize a.kind=kq at a1 HK HW1 x0 ⊢;generalize kindT kq=kt at a1 HK;generalize a.labels.length=nn at HK HW1 x1 ⊢;generalize ks.length=mm at HK HW1 x2 ⊢;clear hk;go_enter Tryz.func117,Tryz.ntmps117;go_wp2_with fail;rw [HW1.out];refine HK.out.mono ?_;rintro e w2 ⟨rfl,hb2⟩;obtain ⟨W3,hW3⟩:∃ W3,w2.alloc (.cells #[.int .i64 0,.slice none 0 0,.slice none 0 0] 168)=W3:=⟨_,rfl⟩;have hb23:Below W1.heap.size W1 W3:=by rw [<-hW3];exact hb2.alloc hb2.size _
  have HB3:=hQ (HB1.out.trans (hb23.mono HB1.out.size));have B13:=hQ (B1.out.under hb23 B1.out.lt);have BR3:=hQ (BR.out.under hb23 BR.out.lt);have HW3:=hQ hW3;clear x0 x1 x2 hb2 hb23 hW3 HK;go_wp2_with fail;rw [HW3.out];have y0:=B13.out.c0;refine wp_region_noPanic ?_;refine wp_region_held_drew (S:=(fun W=>W.cell? ⟨H+1,0,none⟩=some (.int .i64 dk))) (by kernel_rfl) ?_ (fun hHeld=>?_)
  ·(try dsimp only);assumption
  refine wpAnyH_take (i:=0) (oi:=⟨some 14,.move (.tmp 7),4, "l10_typing.go:144",#[],none⟩) (v:=?v0) rfl (by kernel_rfl) (by kernel_rfl) (by kernel_rfl) (fun _ _ _ h=>h) (Or.inl ⟨by rfl,?y0⟩) (by assumption) ?r0
  case y0=>(intro w' hSw;(try dsimp only at hSw);go_simp;all_goals with_reducible rfl)
  try simp only [Act.put,sQ,tQ,vQ]
  refine wpAnyH_take (i:=1) (oi:=⟨some 15,.unOp .not 4 (.tmp 14),4, "l10_typing.go:144",#[⟨0,.data⟩],none⟩) (v:=?v1) rfl (by kernel_rfl) (by kernel_rfl) (by kernel_rfl) (fun _ _ _ h=>h) (Or.inl ⟨by rfl,?y1⟩) (by assumption) ?r1
  case y1=>(intro w' hSw;(try dsimp only at hSw);go_simp;all_goals with_reducible rfl)
  try simp only [Act.put,sQ,tQ,vQ]
  refine wpAnyH_take (i:=2) (oi:=⟨some 16,.move (.tmp 15),4, "l10_typing.go:144",#[⟨1,.data⟩],none⟩) (v:=?v2) rfl (by kernel_rfl) (by kernel_rfl) (by kernel_rfl) (fun _ _ _ h=>h) (Or.inl ⟨by rfl,?y2⟩) (by assumption) ?r2
  case y2=>(intro w' hSw;(try dsimp only at hSw);go_simp;all_goals with_reducible rfl)
  try simp only [Act.put,sQ,tQ,vQ]
  refine wpAnyH_take (i:=3) (oi:=⟨some 17,.fieldAddr 168 (.tmp 6) 2,0, "l10_typing.go:144",#[⟨2,.guard⟩],some (2,false)⟩) (v:=undef) rfl (by kernel_rfl) (by kernel_rfl) (by kernel_rfl) (fun _ _ _ h=>h) (Or.inr ⟨by rfl,rfl⟩) (by assumption) ?_
  try simp only [Act.put,sQ,tQ,vQ]
  refine wpAnyH_take (i:=4) (oi:=⟨some 18,.load 36 (.tmp 17),36, "l10_typing.go:144",#[⟨3,.data⟩,⟨2,.guard⟩],some (2,false)⟩) (v:=undef) rfl (by kernel_rfl) (by kernel_rfl) (by kernel_rfl) (fun _ _ _ h=>h) (Or.inr ⟨by rfl,rfl⟩) (by assumption) ?_
  try simp only [Act.put,sQ,tQ,vQ]
  refine wpAnyH_take (i:=5) (oi:=⟨some 19,.indexAddr 36 (.tmp 18) (.const (.int .i64 0)),0, "l10_typing.go:144",#[⟨4,.data⟩,⟨2,.guard⟩],some (2,false)⟩) (v:=undef) rfl (by kernel_rfl) (by kernel_rfl) (by kernel_rfl) (fun _ _ _ h=>h) (Or.inr ⟨by rfl,rfl⟩) (by assumption) ?_
  try simp only [Act.put,sQ,tQ,vQ]
  refine wpAnyH_take (i:=6) (oi:=⟨some 20,.load 38 (.tmp 19),38, "l10_typing.go:144",#[⟨5,.data⟩,⟨2,.guard⟩],some (2,false)⟩) (v:=undef) rfl (by kernel_rfl) (by kernel_rfl) (by kernel_rfl) (fun _ _ _ h=>h) (Or.inr ⟨by rfl,rfl⟩) (by assumption) ?_
  try simp only [Act.put,sQ,tQ,vQ]
  refine wpAnyH_take (i:=7) (oi:=⟨some 21,.load 38 (.tmp 3),38, "l10_typing.go:144",#[⟨2,.guard⟩],some (2,false)⟩) (v:=undef) rfl (by kernel_rfl) (by kernel_rfl) (by kernel_rfl) (fun _ _ _ h=>h) (Or.inr ⟨by rfl,rfl⟩) (by assumption) ?_
  try simp only [Act.put,sQ,tQ,vQ]
  refine wpAnyH_take (i:=8) (oi:=⟨some 22,.call ⟨.value (.func 115),#[.tmp 20,.tmp 21],#[38,38]⟩,4, "l10_typing.go:144",#[⟨6,.data⟩,⟨7,.data⟩,⟨2,.chain⟩,⟨2,.guard⟩],some (2,false)⟩) (v:=undef) rfl (by kernel_rfl) (by kernel_rfl) (by kernel_rfl) (fun _ _ _ h=>h) (Or.inr ⟨by rfl,rfl⟩) (by assumption) ?_
  try simp only [Act.put,sQ,tQ,vQ]
  refine wpAnyH_take (i:=9) (oi:=⟨some 23,.unOp .not 4 (.tmp 22),4, "l10_typing.go:144",#[⟨8,.data⟩,⟨2,.guard⟩],some (2,false)⟩) (v:=undef) rfl (by kernel_rfl) (by kernel_rfl) (by kernel_rfl) (fun _ _ _ h=>h) (Or.inr ⟨by rfl,rfl⟩) (by assumption) ?_
  try simp only [Act.put,sQ,tQ,vQ]
  refine wpAnyH_take (i:=10) (oi:=⟨some 24,.pick (.tmp 16) (.const (.bool true)) (.tmp 23),4, "l10_typing.go:144",#[⟨2,.data⟩,⟨9,.data⟩],none⟩) (v:=?v10) rfl (by kernel_rfl) (by kernel_rfl) (by kernel_rfl) (fun _ _ _ h=>h) (Or.inl ⟨by rfl,?y10⟩) (by assumption) ?r10
  case y10=>(intro w' hSw;(try dsimp only at hSw);go_simp;all_goals with_reducible rfl)
  try simp only [Act.put,sQ,tQ,vQ]
  refine wpAnyH_done (by kernel_rfl) ?_ _;refine NoPanic.normal ?_;clear y0;have r0:=BR3.out.c0;have r1:=BR3.out.c1;have r2:=BR3.out.c2;have s0:=BR3.out.free 0;have s1:=BR3.out.free 1;have s2:=BR3.out.free 2;have ee:W3.cell? ⟨0,0,none⟩=some ev:=HE.out.keep HB3.out;go_wp2_with fail;go_region_law (fail);all_goals (
   go_wp2_with fail
   generalize hU:(((W3.setCell ⟨H+1+1,0,none⟩ (.int .i64 0)).setCell ⟨H+1+1,1,none⟩ (.slice none 0 0)).setCell ⟨H+1+1,2,none⟩ (.slice none 0 0)).drew.drew=U;have hgU:W3.drew.drew.grownBy U (some (H+1+1)):=by rw [<-hU];exact Zaa (Zaa (Zaa (gQ) _) _) _
   have u1:Box3 U (H+1+1) 38 (.int .i64 0) (.slice none 0 0) (.slice none 0 0):=by
    rw [<-hU];exact ((BR3.out.set0 _).set1 _).set2 _
   have hbU:Below w.heap.size w U:=HB3.out.drew.drew.grown hgU HB3.out.drew.drew.size (fun k hk=>by injection hk with hk;have:=HH.out;omega);have HRR:Hid (PostK K none ev w (.returned (.tuple #[.agg #[.int .i64 0,.slice none 0 0,.slice none 0 0],ev])) U):=hQ ⟨hbU,rfl⟩;have tt0:=u1.c0;have tt1:=u1.c1;have tt2:=u1.c2;clear hU hgU u1 hbU r0 r1 r2 s0 s1 s2 ee;exact bodyPost_ret (v:=.tuple #[.agg #[.int .i64 0,.slice none 0 0,.slice none 0 0],ev]) (by simp [results,Tryz.results117,go_sem,tt0,tt1,tt2]) rfl (by rw [HPP.out];exact HRR.out))
end Go.Proofs.YtlcedleebbgebaaGreatDoor
