/-
  Merged by program: TypS2.
-/
import Derived.Test.YtlcedleebbgebaaGreatDoorQ19
import Derived.Test.YtlcedleebbgebaaGreatDoorQ20
set_option maxRecDepth 100000
set_option maxHeartbeats 3200000
set_option linter.unusedSimpArgs false
set_option linter.unusedVariables false
namespace Go.Proofs.YtlcedleebbgebaaGreatDoor
open Go.RowKit
theorem Zxh {c:Cx}{nm:ByteArray}{m:Nat}(h:m < c.length):look (c.take (m+1)) nm=if c[m].1=nm then some c[m].2 else look (c.take m) nm:=by
 rw [List.take_succ_eq_append_getElem h,Zaak]
theorem Zqe (c:Cx)(nm:ByteArray)(A:Option Addr)(d:Nat)(w:World)(hp:RL kTg w A c)(hl:c.length<=2097152)(hw:∀ x∈c,wt x.2<=1048576):Calls Tryz.prog 126 #[.slice A c.length d,.string nm] w (MadeP (optP (look c nm)) w):=by
 obtain ⟨W1,hW1⟩:∃ W1,w.alloc (.cells #[.int .i64 0,.slice none 0 0,.slice none 0 0] 38)=W1:=⟨_,rfl⟩;obtain ⟨H,hH⟩:∃ H,w.heap.size=H:=⟨_,rfl⟩;have b1:Box3 W1 H 38 (.int .i64 0) (.slice none 0 0) (.slice none 0 0):=by rw [<-hW1,<-hH];exact Box3.new w _ _ _ _
 have hb1:Below w.heap.size w W1:=by rw [<-hW1];exact bQ.alloc nQ _
 have hs1:W1.heap.size=H+1:=by rw [<-hW1,<-hH];simp
 have HB:=hQ (fun (W:World) (hB:Below W1.heap.size W1 W)=>b1.under hB b1.lt);have HB1:=hQ hb1;have HS1:=hQ hs1;have HH:=hQ hH;have HWT:=hQ hw;have HP:=hQ (hp.keep hb1);have HW1:=hQ hW1;have HI0:Hid (∃ k:Nat,k<=c.length/\Value.int .i64 ((c.length:Int) - 1)=.int .i64 ((k:Int) - 1)/\look c nm=look (c.take k) nm/\Below W1.heap.size W1 W1):=hQ ⟨c.length,Nat.le_refl _,rfl,by rw [List.take_length],Below.refl _ _⟩;clear hp hW1 b1 hb1 hs1 hw;go_enter Tryz.func126,Tryz.ntmps126;go_wp2_with fail;rw [HW1.out];go_wp2_with fail;go_loopw [6] (fun i wr=>∃ k:Nat,k<=c.length/\i=.int .i64 ((k:Int) - 1)/\look c nm=look (c.take k) nm/\Below W1.heap.size W1 wr) (fun i _=>(intOf i+1).toNat)
 case atStart=>exact HI0.out
 case round=>
  obtain ⟨k,hk,hi,hlk,hb⟩:=hrel;have HBW:=hQ (HB1.out.trans (hb.mono HB1.out.size));have BR:=hQ (HB.out wr hb);have hz:=hb.size;cases k with
  | zero=>
   have e0:(((0:Nat):Int) - 1)=-1:=rfl;rw [e0] at hi;subst hi;have HF:Hid (optP (look c nm)=(Zap,false)):=hQ (by rw [hlk,List.take_zero];rfl);clear hlk hb hk e0;have HZZ:Hid (∀ U:World,wr.grownBy U (some (H))->MadeP (optP (look c nm)) w (.returned (.tuple #[.agg #[.int .i64 0,.slice none 0 0,.slice none 0 0],.bool false])) U):=hQ (fun U hU=>HF.out ▸ (Zaj (HBW.out.grown hU HBW.out.size (fun k hk=>by injection hk with hk;have:=HH.out;omega))));have r0:=BR.out.c0;have r1:=BR.out.c1;have r2:=BR.out.c2;have s0:=BR.out.free 0;have s1:=BR.out.free 1;have s2:=BR.out.free 2;go_wp2_with fail;generalize hU:((wr.setCell ⟨H,0,none⟩ (.int .i64 0)).setCell ⟨H,1,none⟩ (.slice none 0 0)).setCell ⟨H,2,none⟩ (.slice none 0 0)=U;have hgU:wr.grownBy U (some (H)):=by rw [<-hU];exact Zaa (Zaa (Zaa (gQ) _) _) _
   have u1:Box3 U (H) 38 (.int .i64 0) (.slice none 0 0) (.slice none 0 0):=by
    rw [<-hU];exact ((BR.out.set0 _).set1 _).set2 _
   have HRR:=hQ (HZZ.out U hgU);have t0:=u1.c0;have t1:=u1.c1;have t2:=u1.c2;clear hU hgU u1 r0 r1 r2 s0 s1 s2;exact bodyPost_ret (v:=.tuple #[.agg #[.int .i64 0,.slice none 0 0,.slice none 0 0],.bool false]) (by simp [results,Tryz.results126,go_sem,t0,t1,t2]) rfl HRR.out
  | succ m=>
   have e0:(((m+1:Nat):Int) - 1)=(m:Int):=by omega
   rw [e0] at hi;subst hi;have hlt:m < c.length:=by omega
   have hm0:(0:Int)<=(m:Int):=by omega
   rw [Zxh hlt] at hlk;obtain ⟨ad,p,c0,c1,c2,c3,rfl,hpe,hr,q0,q1,q2,q3⟩:=Zec kTg_n HP.out hb hlt;obtain ⟨tk,TL,TA,tl,tc,ta,td,hcs,hs,hy⟩:=Zdq hr;simp only [List.cons.injEq,and_true] at hcs;obtain ⟨rfl,rfl,rfl,rfl⟩:=hcs;have hwty:=HWT.out _ (List.getElem_mem hlt);by_cases hn:c[m].1=nm
   ·have HF:Hid (optP (look c nm)=(c[m].2,true)):=hQ (by rw [hlk,if_pos hn];rfl)
    have HC:=hQ (Zcm c[m].2 wr _ hy hwty);rw [hn] at q0;generalize c[m].2=ty at *
    clear hr hs hy hlk hk hn hwty e0;go_wp2_with fail;refine HC.out.mono ?_;rintro e w3 hmade;have hb3:Below wr.heap.size wr w3:=by
     obtain ⟨_,_,_,_,_,_,_,_,hb3⟩:=hmade;exact hb3
    have HBX:=hQ (BR.out.under hb3 BR.out.lt);have HM:=hQ (fun (U:World) (hU:w3.grownBy U (some (H)))=>Zcz (b:=true) (w:=w) (U:=U) hmade HBW.out (by have:=HS1.out;omega) (by have:=HH.out;omega) hU);obtain ⟨LL,AA,lc,dd,rfl,_⟩:=HM.out w3 (gQ);have HM2:Hid (∀ U:World,w3.grownBy U (some (H))->MadeP (optP (look c nm)) w (.returned (.tuple #[.agg #[.int .i64 (ty).top.kind,.slice LL (ty).top.labels.length lc,.slice AA (ty).kids.length dd],.bool true])) U):=hQ (by
     intro U hU
     obtain ⟨L9,A9,c9,d9,e9,h9⟩:=HM.out U hU;injection e9 with e9
     rw [<-e9] at h9;exact HF.out ▸ h9)
    have r0:=HBX.out.c0;have r1:=HBX.out.c1;have r2:=HBX.out.c2;have s0:=HBX.out.free 0;have s1:=HBX.out.free 1;have s2:=HBX.out.free 2;generalize (ty).top.kind=y0 at HM2 ⊢;generalize (ty).top.labels.length=y1 at HM2 ⊢;generalize (ty).kids.length=y2 at HM2 ⊢;clear hmade hb3 HM q0 q1 q2 q3;go_wp2_with fail;generalize hU:((w3.setCell ⟨H,0,none⟩ (.int .i64 y0)).setCell ⟨H,1,none⟩ (.slice LL y1 lc)).setCell ⟨H,2,none⟩ (.slice AA y2 dd)=U;have hgU:w3.grownBy U (some (H)):=by rw [<-hU];exact Zaa (Zaa (Zaa (gQ) _) _) _
    have u1:Box3 U (H) 38 (.int .i64 y0) (.slice LL y1 lc) (.slice AA y2 dd):=by
     rw [<-hU];exact ((HBX.out.set0 _).set1 _).set2 _
    have HRR:=hQ (HM2.out U hgU);have t0:=u1.c0;have t1:=u1.c1;have t2:=u1.c2;clear hU hgU u1 r0 r1 r2 s0 s1 s2;exact bodyPost_ret (v:=.tuple #[.agg #[.int .i64 y0,.slice LL y1 lc,.slice AA y2 dd],.bool true]) (by simp [results,Tryz.results126,go_sem,t0,t1,t2]) rfl HRR.out
   ·have HR:Hid (∃ k:Nat,k<=c.length/\Value.int .i64 ((m:Int) - 1)=.int .i64 ((k:Int) - 1)/\look c nm=look (c.take k) nm/\Below W1.heap.size W1 wr):=hQ ⟨m,by omega,rfl,by rw [hlk,if_neg hn],hb⟩
    have f1:=Zqx hn;generalize c[m].1=nk at *
    clear hr hs hy hlk hk hn hb hwty e0;go_wp2_with fail;go_roundw
    case rel=>exact HR.out
    case measure=>simp [intOf] <;> omega
def Zba (ts:List Ty)(q:Int)(k:Nat):Prop:=(ts.take k).all (fun t=>decide (t.top.kind=q))=true
theorem Zwy (nm:ByteArray)(ts:List Ty)(A:Option Addr)(d:Nat)(w:World)(hp:RKids w A ts)(hl:ts.length<=1048576):Calls Tryz.prog 131 #[.string nm,.slice A ts.length d] w (MadeP (optP (opT nm ts)) w):=by
 obtain ⟨W1,hW1⟩:∃ W1,w.alloc (.cells #[.int .i64 0,.slice none 0 0,.slice none 0 0] 38)=W1:=⟨_,rfl⟩;obtain ⟨H,hH⟩:∃ H,w.heap.size=H:=⟨_,rfl⟩;have b1:Box3 W1 H 38 (.int .i64 0) (.slice none 0 0) (.slice none 0 0):=by rw [<-hW1,<-hH];exact Box3.new w _ _ _ _
 have hb1:Below w.heap.size w W1:=by rw [<-hW1];exact bQ.alloc nQ _
 have hs1:W1.heap.size=H+1:=by rw [<-hW1,<-hH];simp
 have HB:=hQ (fun (W:World) (hB:Below W1.heap.size W1 W)=>b1.under hB b1.lt);have HB1:=hQ hb1;have HS1:=hQ hs1;have HH:=hQ hH;have HP:=hQ (hp.keep hb1);have HW1:=hQ hW1;clear hp hW1 b1 hb1 hs1;obtain ⟨q,hq⟩:∃ q,Zcu nm=q:=⟨_,rfl⟩;have HALL:Hid (ts.all (fun t=>decide (t.top.kind=q))=true->opT nm ts=some (Zaq nm)):=hQ (fun h=>by unfold opT;rw [hq,h];rfl);have HNO:Hid (∀ k (h:k < ts.length),ts[k].top.kind≠q->optP (opT nm ts)=(Zap,false)):=hQ (fun k h hn=>by
  have:ts.all (fun t=>decide (t.top.kind=q))=false:=by
   rw [<-Bool.not_eq_true,List.all_eq_true]
   intro h2
   exact hn (by simpa using h2 _ (List.getElem_mem h))
  unfold opT;rw [hq,this]
  rfl)
 have HI0:Hid (∃ k:Nat,k<=ts.length/\Value.int .i64 0=.int .i64 (k:Int)/\Zba ts q k/\Below W1.heap.size W1 W1):=hQ ⟨0,Nat.zero_le _,rfl,by unfold Zba;simp,Below.refl _ _⟩;cases e0:(nm.toList == [38]) with
 | true=>
  have e3:(nm.toList == [43])=false:=by have:=eq_of_beq e0;rw [this];rfl
  have e4:(nm.toList == [45])=false:=by have:=eq_of_beq e0;rw [this];rfl
  have HQ:q=2:=by rw [<-hq];unfold Zcu;simp only [e0,e3,e4,if_true,Bool.false_eq_true,if_false]
  subst HQ;have HGV:Hid (Zaq nm=Zah):=hQ (by unfold Zaq;simp only [e0,e3,e4,if_true,Bool.false_eq_true,if_false]);clear hq;go_enter Tryz.func131,Tryz.ntmps131;go_wp2_with fail;rw [HW1.out];go_wp2_with fail;go_loopw [7] (fun i wr=>∃ k:Nat,k<=ts.length/\i=.int .i64 (k:Int)/\Zba ts 2 k/\Below W1.heap.size W1 wr) (fun i _=>ts.length - (intOf i).toNat)
  case atStart=>exact HI0.out
  case round=>
   obtain ⟨k,hk,rfl,hst,hb⟩:=hrel;have HBW:=hQ (HB1.out.trans (hb.mono HB1.out.size));have BR:=hQ (HB.out wr hb);have hz:=hb.size;by_cases hlt:k < ts.length
   ·obtain ⟨ad,p,c0,c1,c2,rfl,hpe,hr,q0,q1,q2⟩:=Zal HP.out hb hlt
    obtain ⟨a,ks,hnode⟩:∃ a ks,ts[k]=.node a ks:=⟨_,_,(match ts[k] with|.node a ks=>rfl:ts[k]=.node ts[k].top ts[k].kids)⟩;have hr2:=hr;rw [hnode] at hr2;obtain ⟨L9,c9,A9,d9,he,_⟩:=hr2.out;injection he with e0 he
    subst e0;have hkk:ts[k].top.kind=a.kind:=by rw [hnode];rfl
    by_cases hn:a.kind=2
    ·have HR:Hid (∃ j:Nat,j<=ts.length/\Value.int .i64 ((k:Int)+1)=.int .i64 (j:Int)/\Zba ts 2 j/\Below W1.heap.size W1 wr):=hQ ⟨k+1,hlt,by simp,by
      unfold Zba at *
      rw [List.take_succ_eq_append_getElem hlt,List.all_append,hst];simp [hkk,hn],hb⟩
     rw [hn] at q0;clear hr hr2 he hnode hkk hn hb hst hk;go_wp2_with fail;go_roundw
     case rel=>exact HR.out
     case measure=>simp [intOf];omega
    ·have HF:=hQ (HNO.out k hlt (by rw [hkk];exact hn))
     generalize a.kind=ak at *
     clear hr hr2 he hnode hkk hb hst hk;have HZZ:Hid (∀ U:World,wr.grownBy U (some (H))->MadeP (optP (opT nm ts)) w (.returned (.tuple #[.agg #[.int .i64 0,.slice none 0 0,.slice none 0 0],.bool false])) U):=hQ (fun U hU=>HF.out ▸ (Zaj (HBW.out.grown hU HBW.out.size (fun k hk=>by injection hk with hk;have:=HH.out;omega))));have r0:=BR.out.c0;have r1:=BR.out.c1;have r2:=BR.out.c2;have s0:=BR.out.free 0;have s1:=BR.out.free 1;have s2:=BR.out.free 2;go_wp2_with fail;generalize hU:((wr.setCell ⟨H,0,none⟩ (.int .i64 0)).setCell ⟨H,1,none⟩ (.slice none 0 0)).setCell ⟨H,2,none⟩ (.slice none 0 0)=U;have hgU:wr.grownBy U (some (H)):=by rw [<-hU];exact Zaa (Zaa (Zaa (gQ) _) _) _
     have u1:Box3 U (H) 38 (.int .i64 0) (.slice none 0 0) (.slice none 0 0):=by
      rw [<-hU];exact ((BR.out.set0 _).set1 _).set2 _
     have HRR:=hQ (HZZ.out U hgU);have t0:=u1.c0;have t1:=u1.c1;have t2:=u1.c2;clear hU hgU u1 r0 r1 r2 s0 s1 s2;exact bodyPost_ret (v:=.tuple #[.agg #[.int .i64 0,.slice none 0 0,.slice none 0 0],.bool false]) (by simp [results,Tryz.results131,go_sem,t0,t1,t2]) rfl HRR.out
   ·have he:k=ts.length:=by omega
    subst he;have HG:Hid (optP (opT nm ts)=(Zaq nm,true)):=hQ (by rw [HALL.out (by unfold Zba at hst;rwa [List.take_length] at hst)];rfl);clear hb hst hk;have HC:=hQ (show Calls Tryz.prog _ #[] wr (MadeT Zah wr) from Zdc wr);have HF:Hid (optP (opT nm ts)=(Zah,true)):=hQ (by rw [HG.out,HGV.out]);go_wp2_with fail;refine HC.out.mono ?_;rintro e w3 hmade;have hb3:Below wr.heap.size wr w3:=by
     obtain ⟨_,_,_,_,_,_,_,_,hb3⟩:=hmade;exact hb3
    have HBX:=hQ (BR.out.under hb3 BR.out.lt);have HM:=hQ (fun (U:World) (hU:w3.grownBy U (some (H)))=>Zcz (b:=true) (w:=w) (U:=U) hmade HBW.out (by have:=HS1.out;omega) (by have:=HH.out;omega) hU);obtain ⟨LL,AA,lc,dd,rfl,_⟩:=HM.out w3 (gQ);have HM2:Hid (∀ U:World,w3.grownBy U (some (H))->MadeP (optP (opT nm ts)) w (.returned (.tuple #[.agg #[.int .i64 (Zah).top.kind,.slice LL (Zah).top.labels.length lc,.slice AA (Zah).kids.length dd],.bool true])) U):=hQ (by
     intro U hU
     obtain ⟨L9,A9,c9,d9,e9,h9⟩:=HM.out U hU;injection e9 with e9
     rw [<-e9] at h9;exact HF.out ▸ h9)
    have r0:=HBX.out.c0;have r1:=HBX.out.c1;have r2:=HBX.out.c2;have s0:=HBX.out.free 0;have s1:=HBX.out.free 1;have s2:=HBX.out.free 2;generalize (Zah).top.kind=y0 at HM2 ⊢;generalize (Zah).top.labels.length=y1 at HM2 ⊢;generalize (Zah).kids.length=y2 at HM2 ⊢;clear hmade hb3 HM;go_wp2_with fail;generalize hU:((w3.setCell ⟨H,0,none⟩ (.int .i64 y0)).setCell ⟨H,1,none⟩ (.slice LL y1 lc)).setCell ⟨H,2,none⟩ (.slice AA y2 dd)=U;have hgU:w3.grownBy U (some (H)):=by rw [<-hU];exact Zaa (Zaa (Zaa (gQ) _) _) _
    have u1:Box3 U (H) 38 (.int .i64 y0) (.slice LL y1 lc) (.slice AA y2 dd):=by
     rw [<-hU];exact ((HBX.out.set0 _).set1 _).set2 _
    have HRR:=hQ (HM2.out U hgU);have t0:=u1.c0;have t1:=u1.c1;have t2:=u1.c2;clear hU hgU u1 r0 r1 r2 s0 s1 s2;exact bodyPost_ret (v:=.tuple #[.agg #[.int .i64 y0,.slice LL y1 lc,.slice AA y2 dd],.bool true]) (by simp [results,Tryz.results131,go_sem,t0,t1,t2]) rfl HRR.out
 | false=>
  cases e1:(nm.toList == [124]) with
  | true=>
   have e3:(nm.toList == [43])=false:=by have:=eq_of_beq e1;rw [this];rfl
   have e4:(nm.toList == [45])=false:=by have:=eq_of_beq e1;rw [this];rfl
   have HQ:q=2:=by rw [<-hq];unfold Zcu;simp only [e0,e1,e3,e4,if_true,Bool.false_eq_true,if_false]
   subst HQ;have HGV:Hid (Zaq nm=Zah):=hQ (by unfold Zaq;simp only [e0,e1,e3,e4,if_true,Bool.false_eq_true,if_false]);clear hq;go_enter Tryz.func131,Tryz.ntmps131;go_wp2_with fail;rw [HW1.out];go_wp2_with fail;go_loopw [7] (fun i wr=>∃ k:Nat,k<=ts.length/\i=.int .i64 (k:Int)/\Zba ts 2 k/\Below W1.heap.size W1 wr) (fun i _=>ts.length - (intOf i).toNat)
   case atStart=>exact HI0.out
   case round=>
    obtain ⟨k,hk,rfl,hst,hb⟩:=hrel;have HBW:=hQ (HB1.out.trans (hb.mono HB1.out.size));have BR:=hQ (HB.out wr hb);have hz:=hb.size;by_cases hlt:k < ts.length
    ·obtain ⟨ad,p,c0,c1,c2,rfl,hpe,hr,q0,q1,q2⟩:=Zal HP.out hb hlt
     obtain ⟨a,ks,hnode⟩:∃ a ks,ts[k]=.node a ks:=⟨_,_,(match ts[k] with|.node a ks=>rfl:ts[k]=.node ts[k].top ts[k].kids)⟩;have hr2:=hr;rw [hnode] at hr2;obtain ⟨L9,c9,A9,d9,he,_⟩:=hr2.out;injection he with e0 he
     subst e0;have hkk:ts[k].top.kind=a.kind:=by rw [hnode];rfl
     by_cases hn:a.kind=2
     ·have HR:Hid (∃ j:Nat,j<=ts.length/\Value.int .i64 ((k:Int)+1)=.int .i64 (j:Int)/\Zba ts 2 j/\Below W1.heap.size W1 wr):=hQ ⟨k+1,hlt,by simp,by
       unfold Zba at *
       rw [List.take_succ_eq_append_getElem hlt,List.all_append,hst];simp [hkk,hn],hb⟩
      rw [hn] at q0;clear hr hr2 he hnode hkk hn hb hst hk;go_wp2_with fail;go_roundw
      case rel=>exact HR.out
      case measure=>simp [intOf];omega
     ·have HF:=hQ (HNO.out k hlt (by rw [hkk];exact hn))
      generalize a.kind=ak at *
      clear hr hr2 he hnode hkk hb hst hk;have HZZ:Hid (∀ U:World,wr.grownBy U (some (H))->MadeP (optP (opT nm ts)) w (.returned (.tuple #[.agg #[.int .i64 0,.slice none 0 0,.slice none 0 0],.bool false])) U):=hQ (fun U hU=>HF.out ▸ (Zaj (HBW.out.grown hU HBW.out.size (fun k hk=>by injection hk with hk;have:=HH.out;omega))));have r0:=BR.out.c0;have r1:=BR.out.c1;have r2:=BR.out.c2;have s0:=BR.out.free 0;have s1:=BR.out.free 1;have s2:=BR.out.free 2;go_wp2_with fail;generalize hU:((wr.setCell ⟨H,0,none⟩ (.int .i64 0)).setCell ⟨H,1,none⟩ (.slice none 0 0)).setCell ⟨H,2,none⟩ (.slice none 0 0)=U;have hgU:wr.grownBy U (some (H)):=by rw [<-hU];exact Zaa (Zaa (Zaa (gQ) _) _) _
      have u1:Box3 U (H) 38 (.int .i64 0) (.slice none 0 0) (.slice none 0 0):=by
       rw [<-hU];exact ((BR.out.set0 _).set1 _).set2 _
      have HRR:=hQ (HZZ.out U hgU);have t0:=u1.c0;have t1:=u1.c1;have t2:=u1.c2;clear hU hgU u1 r0 r1 r2 s0 s1 s2;exact bodyPost_ret (v:=.tuple #[.agg #[.int .i64 0,.slice none 0 0,.slice none 0 0],.bool false]) (by simp [results,Tryz.results131,go_sem,t0,t1,t2]) rfl HRR.out
    ·have he:k=ts.length:=by omega
     subst he;have HG:Hid (optP (opT nm ts)=(Zaq nm,true)):=hQ (by rw [HALL.out (by unfold Zba at hst;rwa [List.take_length] at hst)];rfl);clear hb hst hk;have HC:=hQ (show Calls Tryz.prog _ #[] wr (MadeT Zah wr) from Zdc wr);have HF:Hid (optP (opT nm ts)=(Zah,true)):=hQ (by rw [HG.out,HGV.out]);go_wp2_with fail;refine HC.out.mono ?_;rintro e w3 hmade;have hb3:Below wr.heap.size wr w3:=by
      obtain ⟨_,_,_,_,_,_,_,_,hb3⟩:=hmade;exact hb3
     have HBX:=hQ (BR.out.under hb3 BR.out.lt);have HM:=hQ (fun (U:World) (hU:w3.grownBy U (some (H)))=>Zcz (b:=true) (w:=w) (U:=U) hmade HBW.out (by have:=HS1.out;omega) (by have:=HH.out;omega) hU);obtain ⟨LL,AA,lc,dd,rfl,_⟩:=HM.out w3 (gQ);have HM2:Hid (∀ U:World,w3.grownBy U (some (H))->MadeP (optP (opT nm ts)) w (.returned (.tuple #[.agg #[.int .i64 (Zah).top.kind,.slice LL (Zah).top.labels.length lc,.slice AA (Zah).kids.length dd],.bool true])) U):=hQ (by
      intro U hU
      obtain ⟨L9,A9,c9,d9,e9,h9⟩:=HM.out U hU;injection e9 with e9
      rw [<-e9] at h9;exact HF.out ▸ h9)
     have r0:=HBX.out.c0;have r1:=HBX.out.c1;have r2:=HBX.out.c2;have s0:=HBX.out.free 0;have s1:=HBX.out.free 1;have s2:=HBX.out.free 2;generalize (Zah).top.kind=y0 at HM2 ⊢;generalize (Zah).top.labels.length=y1 at HM2 ⊢;generalize (Zah).kids.length=y2 at HM2 ⊢;clear hmade hb3 HM;go_wp2_with fail;generalize hU:((w3.setCell ⟨H,0,none⟩ (.int .i64 y0)).setCell ⟨H,1,none⟩ (.slice LL y1 lc)).setCell ⟨H,2,none⟩ (.slice AA y2 dd)=U;have hgU:w3.grownBy U (some (H)):=by rw [<-hU];exact Zaa (Zaa (Zaa (gQ) _) _) _
     have u1:Box3 U (H) 38 (.int .i64 y0) (.slice LL y1 lc) (.slice AA y2 dd):=by
      rw [<-hU];exact ((HBX.out.set0 _).set1 _).set2 _
     have HRR:=hQ (HM2.out U hgU);have t0:=u1.c0;have t1:=u1.c1;have t2:=u1.c2;clear hU hgU u1 r0 r1 r2 s0 s1 s2;exact bodyPost_ret (v:=.tuple #[.agg #[.int .i64 y0,.slice LL y1 lc,.slice AA y2 dd],.bool true]) (by simp [results,Tryz.results131,go_sem,t0,t1,t2]) rfl HRR.out
  | false=>
   cases e2:(nm.toList == [33]) with
   | true=>
    have e3:(nm.toList == [43])=false:=by have:=eq_of_beq e2;rw [this];rfl
    have e4:(nm.toList == [45])=false:=by have:=eq_of_beq e2;rw [this];rfl
    have HQ:q=2:=by rw [<-hq];unfold Zcu;simp only [e0,e1,e2,e3,e4,if_true,Bool.false_eq_true,if_false]
    subst HQ;have HGV:Hid (Zaq nm=Zah):=hQ (by unfold Zaq;simp only [e0,e1,e2,e3,e4,if_true,Bool.false_eq_true,if_false]);clear hq;go_enter Tryz.func131,Tryz.ntmps131;go_wp2_with fail;rw [HW1.out];go_wp2_with fail;go_loopw [7] (fun i wr=>∃ k:Nat,k<=ts.length/\i=.int .i64 (k:Int)/\Zba ts 2 k/\Below W1.heap.size W1 wr) (fun i _=>ts.length - (intOf i).toNat)
    case atStart=>exact HI0.out
    case round=>
     obtain ⟨k,hk,rfl,hst,hb⟩:=hrel;have HBW:=hQ (HB1.out.trans (hb.mono HB1.out.size));have BR:=hQ (HB.out wr hb);have hz:=hb.size;by_cases hlt:k < ts.length
     ·obtain ⟨ad,p,c0,c1,c2,rfl,hpe,hr,q0,q1,q2⟩:=Zal HP.out hb hlt
      obtain ⟨a,ks,hnode⟩:∃ a ks,ts[k]=.node a ks:=⟨_,_,(match ts[k] with|.node a ks=>rfl:ts[k]=.node ts[k].top ts[k].kids)⟩;have hr2:=hr;rw [hnode] at hr2;obtain ⟨L9,c9,A9,d9,he,_⟩:=hr2.out;injection he with e0 he
      subst e0;have hkk:ts[k].top.kind=a.kind:=by rw [hnode];rfl
      by_cases hn:a.kind=2
      ·have HR:Hid (∃ j:Nat,j<=ts.length/\Value.int .i64 ((k:Int)+1)=.int .i64 (j:Int)/\Zba ts 2 j/\Below W1.heap.size W1 wr):=hQ ⟨k+1,hlt,by simp,by
        unfold Zba at *
        rw [List.take_succ_eq_append_getElem hlt,List.all_append,hst];simp [hkk,hn],hb⟩
       rw [hn] at q0;clear hr hr2 he hnode hkk hn hb hst hk;go_wp2_with fail;go_roundw
       case rel=>exact HR.out
       case measure=>simp [intOf];omega
      ·have HF:=hQ (HNO.out k hlt (by rw [hkk];exact hn))
       generalize a.kind=ak at *
       clear hr hr2 he hnode hkk hb hst hk;have HZZ:Hid (∀ U:World,wr.grownBy U (some (H))->MadeP (optP (opT nm ts)) w (.returned (.tuple #[.agg #[.int .i64 0,.slice none 0 0,.slice none 0 0],.bool false])) U):=hQ (fun U hU=>HF.out ▸ (Zaj (HBW.out.grown hU HBW.out.size (fun k hk=>by injection hk with hk;have:=HH.out;omega))));have r0:=BR.out.c0;have r1:=BR.out.c1;have r2:=BR.out.c2;have s0:=BR.out.free 0;have s1:=BR.out.free 1;have s2:=BR.out.free 2;go_wp2_with fail;generalize hU:((wr.setCell ⟨H,0,none⟩ (.int .i64 0)).setCell ⟨H,1,none⟩ (.slice none 0 0)).setCell ⟨H,2,none⟩ (.slice none 0 0)=U;have hgU:wr.grownBy U (some (H)):=by rw [<-hU];exact Zaa (Zaa (Zaa (gQ) _) _) _
       have u1:Box3 U (H) 38 (.int .i64 0) (.slice none 0 0) (.slice none 0 0):=by
        rw [<-hU];exact ((BR.out.set0 _).set1 _).set2 _
       have HRR:=hQ (HZZ.out U hgU);have t0:=u1.c0;have t1:=u1.c1;have t2:=u1.c2;clear hU hgU u1 r0 r1 r2 s0 s1 s2;exact bodyPost_ret (v:=.tuple #[.agg #[.int .i64 0,.slice none 0 0,.slice none 0 0],.bool false]) (by simp [results,Tryz.results131,go_sem,t0,t1,t2]) rfl HRR.out
     ·have he:k=ts.length:=by omega
      subst he;have HG:Hid (optP (opT nm ts)=(Zaq nm,true)):=hQ (by rw [HALL.out (by unfold Zba at hst;rwa [List.take_length] at hst)];rfl);clear hb hst hk;have HC:=hQ (show Calls Tryz.prog _ #[] wr (MadeT Zah wr) from Zdc wr);have HF:Hid (optP (opT nm ts)=(Zah,true)):=hQ (by rw [HG.out,HGV.out]);go_wp2_with fail;refine HC.out.mono ?_;rintro e w3 hmade;have hb3:Below wr.heap.size wr w3:=by
       obtain ⟨_,_,_,_,_,_,_,_,hb3⟩:=hmade;exact hb3
      have HBX:=hQ (BR.out.under hb3 BR.out.lt);have HM:=hQ (fun (U:World) (hU:w3.grownBy U (some (H)))=>Zcz (b:=true) (w:=w) (U:=U) hmade HBW.out (by have:=HS1.out;omega) (by have:=HH.out;omega) hU);obtain ⟨LL,AA,lc,dd,rfl,_⟩:=HM.out w3 (gQ);have HM2:Hid (∀ U:World,w3.grownBy U (some (H))->MadeP (optP (opT nm ts)) w (.returned (.tuple #[.agg #[.int .i64 (Zah).top.kind,.slice LL (Zah).top.labels.length lc,.slice AA (Zah).kids.length dd],.bool true])) U):=hQ (by
       intro U hU
       obtain ⟨L9,A9,c9,d9,e9,h9⟩:=HM.out U hU;injection e9 with e9
       rw [<-e9] at h9;exact HF.out ▸ h9)
      have r0:=HBX.out.c0;have r1:=HBX.out.c1;have r2:=HBX.out.c2;have s0:=HBX.out.free 0;have s1:=HBX.out.free 1;have s2:=HBX.out.free 2;generalize (Zah).top.kind=y0 at HM2 ⊢;generalize (Zah).top.labels.length=y1 at HM2 ⊢;generalize (Zah).kids.length=y2 at HM2 ⊢;clear hmade hb3 HM;go_wp2_with fail;generalize hU:((w3.setCell ⟨H,0,none⟩ (.int .i64 y0)).setCell ⟨H,1,none⟩ (.slice LL y1 lc)).setCell ⟨H,2,none⟩ (.slice AA y2 dd)=U;have hgU:w3.grownBy U (some (H)):=by rw [<-hU];exact Zaa (Zaa (Zaa (gQ) _) _) _
      have u1:Box3 U (H) 38 (.int .i64 y0) (.slice LL y1 lc) (.slice AA y2 dd):=by
       rw [<-hU];exact ((HBX.out.set0 _).set1 _).set2 _
      have HRR:=hQ (HM2.out U hgU);have t0:=u1.c0;have t1:=u1.c1;have t2:=u1.c2;clear hU hgU u1 r0 r1 r2 s0 s1 s2;exact bodyPost_ret (v:=.tuple #[.agg #[.int .i64 y0,.slice LL y1 lc,.slice AA y2 dd],.bool true]) (by simp [results,Tryz.results131,go_sem,t0,t1,t2]) rfl HRR.out
   | false=>
    cases e3:(nm.toList == [43]) with
    | true=>
     have HQ:q=1:=by rw [<-hq];unfold Zcu;simp only [e0,e1,e2,e3,if_true,Bool.false_eq_true,if_false]
     subst HQ;have HGV:Hid (Zaq nm=tyInt):=hQ (by unfold Zaq;simp only [e0,e1,e2,e3,if_true,Bool.false_eq_true,if_false]);clear hq;go_enter Tryz.func131,Tryz.ntmps131;go_wp2_with fail;rw [HW1.out];go_wp2_with fail;go_loopw [7] (fun i wr=>∃ k:Nat,k<=ts.length/\i=.int .i64 (k:Int)/\Zba ts 1 k/\Below W1.heap.size W1 wr) (fun i _=>ts.length - (intOf i).toNat)
     case atStart=>exact HI0.out
     case round=>
      obtain ⟨k,hk,rfl,hst,hb⟩:=hrel;have HBW:=hQ (HB1.out.trans (hb.mono HB1.out.size));have BR:=hQ (HB.out wr hb);have hz:=hb.size;by_cases hlt:k < ts.length
      ·obtain ⟨ad,p,c0,c1,c2,rfl,hpe,hr,q0,q1,q2⟩:=Zal HP.out hb hlt
       obtain ⟨a,ks,hnode⟩:∃ a ks,ts[k]=.node a ks:=⟨_,_,(match ts[k] with|.node a ks=>rfl:ts[k]=.node ts[k].top ts[k].kids)⟩;have hr2:=hr;rw [hnode] at hr2;obtain ⟨L9,c9,A9,d9,he,_⟩:=hr2.out;injection he with e0 he
       subst e0;have hkk:ts[k].top.kind=a.kind:=by rw [hnode];rfl
       by_cases hn:a.kind=1
       ·have HR:Hid (∃ j:Nat,j<=ts.length/\Value.int .i64 ((k:Int)+1)=.int .i64 (j:Int)/\Zba ts 1 j/\Below W1.heap.size W1 wr):=hQ ⟨k+1,hlt,by simp,by
         unfold Zba at *
         rw [List.take_succ_eq_append_getElem hlt,List.all_append,hst];simp [hkk,hn],hb⟩
        rw [hn] at q0;clear hr hr2 he hnode hkk hn hb hst hk;go_wp2_with fail;go_roundw
        case rel=>exact HR.out
        case measure=>simp [intOf];omega
       ·have HF:=hQ (HNO.out k hlt (by rw [hkk];exact hn))
        generalize a.kind=ak at *
        clear hr hr2 he hnode hkk hb hst hk;have HZZ:Hid (∀ U:World,wr.grownBy U (some (H))->MadeP (optP (opT nm ts)) w (.returned (.tuple #[.agg #[.int .i64 0,.slice none 0 0,.slice none 0 0],.bool false])) U):=hQ (fun U hU=>HF.out ▸ (Zaj (HBW.out.grown hU HBW.out.size (fun k hk=>by injection hk with hk;have:=HH.out;omega))));have r0:=BR.out.c0;have r1:=BR.out.c1;have r2:=BR.out.c2;have s0:=BR.out.free 0;have s1:=BR.out.free 1;have s2:=BR.out.free 2;go_wp2_with fail;generalize hU:((wr.setCell ⟨H,0,none⟩ (.int .i64 0)).setCell ⟨H,1,none⟩ (.slice none 0 0)).setCell ⟨H,2,none⟩ (.slice none 0 0)=U;have hgU:wr.grownBy U (some (H)):=by rw [<-hU];exact Zaa (Zaa (Zaa (gQ) _) _) _
        have u1:Box3 U (H) 38 (.int .i64 0) (.slice none 0 0) (.slice none 0 0):=by
         rw [<-hU];exact ((BR.out.set0 _).set1 _).set2 _
        have HRR:=hQ (HZZ.out U hgU);have t0:=u1.c0;have t1:=u1.c1;have t2:=u1.c2;clear hU hgU u1 r0 r1 r2 s0 s1 s2;exact bodyPost_ret (v:=.tuple #[.agg #[.int .i64 0,.slice none 0 0,.slice none 0 0],.bool false]) (by simp [results,Tryz.results131,go_sem,t0,t1,t2]) rfl HRR.out
      ·have he:k=ts.length:=by omega
       subst he;have HG:Hid (optP (opT nm ts)=(Zaq nm,true)):=hQ (by rw [HALL.out (by unfold Zba at hst;rwa [List.take_length] at hst)];rfl);clear hb hst hk;have HC:=hQ (show Calls Tryz.prog _ #[] wr (MadeT tyInt wr) from Zgy wr);have HF:Hid (optP (opT nm ts)=(tyInt,true)):=hQ (by rw [HG.out,HGV.out]);go_wp2_with fail;refine HC.out.mono ?_;rintro e w3 hmade;have hb3:Below wr.heap.size wr w3:=by
        obtain ⟨_,_,_,_,_,_,_,_,hb3⟩:=hmade;exact hb3
       have HBX:=hQ (BR.out.under hb3 BR.out.lt);have HM:=hQ (fun (U:World) (hU:w3.grownBy U (some (H)))=>Zcz (b:=true) (w:=w) (U:=U) hmade HBW.out (by have:=HS1.out;omega) (by have:=HH.out;omega) hU);obtain ⟨LL,AA,lc,dd,rfl,_⟩:=HM.out w3 (gQ);have HM2:Hid (∀ U:World,w3.grownBy U (some (H))->MadeP (optP (opT nm ts)) w (.returned (.tuple #[.agg #[.int .i64 (tyInt).top.kind,.slice LL (tyInt).top.labels.length lc,.slice AA (tyInt).kids.length dd],.bool true])) U):=hQ (by
        intro U hU
        obtain ⟨L9,A9,c9,d9,e9,h9⟩:=HM.out U hU;injection e9 with e9
        rw [<-e9] at h9;exact HF.out ▸ h9)
       have r0:=HBX.out.c0;have r1:=HBX.out.c1;have r2:=HBX.out.c2;have s0:=HBX.out.free 0;have s1:=HBX.out.free 1;have s2:=HBX.out.free 2;generalize (tyInt).top.kind=y0 at HM2 ⊢;generalize (tyInt).top.labels.length=y1 at HM2 ⊢;generalize (tyInt).kids.length=y2 at HM2 ⊢;clear hmade hb3 HM;go_wp2_with fail;generalize hU:((w3.setCell ⟨H,0,none⟩ (.int .i64 y0)).setCell ⟨H,1,none⟩ (.slice LL y1 lc)).setCell ⟨H,2,none⟩ (.slice AA y2 dd)=U;have hgU:w3.grownBy U (some (H)):=by rw [<-hU];exact Zaa (Zaa (Zaa (gQ) _) _) _
       have u1:Box3 U (H) 38 (.int .i64 y0) (.slice LL y1 lc) (.slice AA y2 dd):=by
        rw [<-hU];exact ((HBX.out.set0 _).set1 _).set2 _
       have HRR:=hQ (HM2.out U hgU);have t0:=u1.c0;have t1:=u1.c1;have t2:=u1.c2;clear hU hgU u1 r0 r1 r2 s0 s1 s2;exact bodyPost_ret (v:=.tuple #[.agg #[.int .i64 y0,.slice LL y1 lc,.slice AA y2 dd],.bool true]) (by simp [results,Tryz.results131,go_sem,t0,t1,t2]) rfl HRR.out
    | false=>
     cases e4:(nm.toList == [45]) with
     | true=>
      have HQ:q=1:=by rw [<-hq];unfold Zcu;simp only [e0,e1,e2,e3,e4,if_true,Bool.false_eq_true,if_false]
      subst HQ;have HGV:Hid (Zaq nm=tyInt):=hQ (by unfold Zaq;simp only [e0,e1,e2,e3,e4,if_true,Bool.false_eq_true,if_false]);clear hq;go_enter Tryz.func131,Tryz.ntmps131;go_wp2_with fail;rw [HW1.out];go_wp2_with fail;go_loopw [7] (fun i wr=>∃ k:Nat,k<=ts.length/\i=.int .i64 (k:Int)/\Zba ts 1 k/\Below W1.heap.size W1 wr) (fun i _=>ts.length - (intOf i).toNat)
      case atStart=>exact HI0.out
      case round=>
       obtain ⟨k,hk,rfl,hst,hb⟩:=hrel;have HBW:=hQ (HB1.out.trans (hb.mono HB1.out.size));have BR:=hQ (HB.out wr hb);have hz:=hb.size;by_cases hlt:k < ts.length
       ·obtain ⟨ad,p,c0,c1,c2,rfl,hpe,hr,q0,q1,q2⟩:=Zal HP.out hb hlt
        obtain ⟨a,ks,hnode⟩:∃ a ks,ts[k]=.node a ks:=⟨_,_,(match ts[k] with|.node a ks=>rfl:ts[k]=.node ts[k].top ts[k].kids)⟩;have hr2:=hr;rw [hnode] at hr2;obtain ⟨L9,c9,A9,d9,he,_⟩:=hr2.out;injection he with e0 he
        subst e0;have hkk:ts[k].top.kind=a.kind:=by rw [hnode];rfl
        by_cases hn:a.kind=1
        ·have HR:Hid (∃ j:Nat,j<=ts.length/\Value.int .i64 ((k:Int)+1)=.int .i64 (j:Int)/\Zba ts 1 j/\Below W1.heap.size W1 wr):=hQ ⟨k+1,hlt,by simp,by
          unfold Zba at *
          rw [List.take_succ_eq_append_getElem hlt,List.all_append,hst];simp [hkk,hn],hb⟩
         rw [hn] at q0;clear hr hr2 he hnode hkk hn hb hst hk;go_wp2_with fail;go_roundw
         case rel=>exact HR.out
         case measure=>simp [intOf];omega
        ·have HF:=hQ (HNO.out k hlt (by rw [hkk];exact hn))
         generalize a.kind=ak at *
         clear hr hr2 he hnode hkk hb hst hk;have HZZ:Hid (∀ U:World,wr.grownBy U (some (H))->MadeP (optP (opT nm ts)) w (.returned (.tuple #[.agg #[.int .i64 0,.slice none 0 0,.slice none 0 0],.bool false])) U):=hQ (fun U hU=>HF.out ▸ (Zaj (HBW.out.grown hU HBW.out.size (fun k hk=>by injection hk with hk;have:=HH.out;omega))));have r0:=BR.out.c0;have r1:=BR.out.c1;have r2:=BR.out.c2;have s0:=BR.out.free 0;have s1:=BR.out.free 1;have s2:=BR.out.free 2;go_wp2_with fail;generalize hU:((wr.setCell ⟨H,0,none⟩ (.int .i64 0)).setCell ⟨H,1,none⟩ (.slice none 0 0)).setCell ⟨H,2,none⟩ (.slice none 0 0)=U;have hgU:wr.grownBy U (some (H)):=by rw [<-hU];exact Zaa (Zaa (Zaa (gQ) _) _) _
         have u1:Box3 U (H) 38 (.int .i64 0) (.slice none 0 0) (.slice none 0 0):=by
          rw [<-hU];exact ((BR.out.set0 _).set1 _).set2 _
         have HRR:=hQ (HZZ.out U hgU);have t0:=u1.c0;have t1:=u1.c1;have t2:=u1.c2;clear hU hgU u1 r0 r1 r2 s0 s1 s2;exact bodyPost_ret (v:=.tuple #[.agg #[.int .i64 0,.slice none 0 0,.slice none 0 0],.bool false]) (by simp [results,Tryz.results131,go_sem,t0,t1,t2]) rfl HRR.out
       ·have he:k=ts.length:=by omega
        subst he;have HG:Hid (optP (opT nm ts)=(Zaq nm,true)):=hQ (by rw [HALL.out (by unfold Zba at hst;rwa [List.take_length] at hst)];rfl);clear hb hst hk;have HC:=hQ (show Calls Tryz.prog _ #[] wr (MadeT tyInt wr) from Zgy wr);have HF:Hid (optP (opT nm ts)=(tyInt,true)):=hQ (by rw [HG.out,HGV.out]);go_wp2_with fail;refine HC.out.mono ?_;rintro e w3 hmade;have hb3:Below wr.heap.size wr w3:=by
         obtain ⟨_,_,_,_,_,_,_,_,hb3⟩:=hmade;exact hb3
        have HBX:=hQ (BR.out.under hb3 BR.out.lt);have HM:=hQ (fun (U:World) (hU:w3.grownBy U (some (H)))=>Zcz (b:=true) (w:=w) (U:=U) hmade HBW.out (by have:=HS1.out;omega) (by have:=HH.out;omega) hU);obtain ⟨LL,AA,lc,dd,rfl,_⟩:=HM.out w3 (gQ);have HM2:Hid (∀ U:World,w3.grownBy U (some (H))->MadeP (optP (opT nm ts)) w (.returned (.tuple #[.agg #[.int .i64 (tyInt).top.kind,.slice LL (tyInt).top.labels.length lc,.slice AA (tyInt).kids.length dd],.bool true])) U):=hQ (by
         intro U hU
         obtain ⟨L9,A9,c9,d9,e9,h9⟩:=HM.out U hU;injection e9 with e9
         rw [<-e9] at h9;exact HF.out ▸ h9)
        have r0:=HBX.out.c0;have r1:=HBX.out.c1;have r2:=HBX.out.c2;have s0:=HBX.out.free 0;have s1:=HBX.out.free 1;have s2:=HBX.out.free 2;generalize (tyInt).top.kind=y0 at HM2 ⊢;generalize (tyInt).top.labels.length=y1 at HM2 ⊢;generalize (tyInt).kids.length=y2 at HM2 ⊢;clear hmade hb3 HM;go_wp2_with fail;generalize hU:((w3.setCell ⟨H,0,none⟩ (.int .i64 y0)).setCell ⟨H,1,none⟩ (.slice LL y1 lc)).setCell ⟨H,2,none⟩ (.slice AA y2 dd)=U;have hgU:w3.grownBy U (some (H)):=by rw [<-hU];exact Zaa (Zaa (Zaa (gQ) _) _) _
        have u1:Box3 U (H) 38 (.int .i64 y0) (.slice LL y1 lc) (.slice AA y2 dd):=by
         rw [<-hU];exact ((HBX.out.set0 _).set1 _).set2 _
        have HRR:=hQ (HM2.out U hgU);have t0:=u1.c0;have t1:=u1.c1;have t2:=u1.c2;clear hU hgU u1 r0 r1 r2 s0 s1 s2;exact bodyPost_ret (v:=.tuple #[.agg #[.int .i64 y0,.slice LL y1 lc,.slice AA y2 dd],.bool true]) (by simp [results,Tryz.results131,go_sem,t0,t1,t2]) rfl HRR.out
     | false=>
      have HQ:q=1:=by rw [<-hq];unfold Zcu;simp only [e0,e1,e2,e3,e4,if_true,Bool.false_eq_true,if_false]
      subst HQ;have HGV:Hid (Zaq nm=Zah):=hQ (by unfold Zaq;simp only [e0,e1,e2,e3,e4,if_true,Bool.false_eq_true,if_false]);clear hq;go_enter Tryz.func131,Tryz.ntmps131;go_wp2_with fail;rw [HW1.out];go_wp2_with fail;go_loopw [7] (fun i wr=>∃ k:Nat,k<=ts.length/\i=.int .i64 (k:Int)/\Zba ts 1 k/\Below W1.heap.size W1 wr) (fun i _=>ts.length - (intOf i).toNat)
      case atStart=>exact HI0.out
      case round=>
       obtain ⟨k,hk,rfl,hst,hb⟩:=hrel;have HBW:=hQ (HB1.out.trans (hb.mono HB1.out.size));have BR:=hQ (HB.out wr hb);have hz:=hb.size;by_cases hlt:k < ts.length
       ·obtain ⟨ad,p,c0,c1,c2,rfl,hpe,hr,q0,q1,q2⟩:=Zal HP.out hb hlt
        obtain ⟨a,ks,hnode⟩:∃ a ks,ts[k]=.node a ks:=⟨_,_,(match ts[k] with|.node a ks=>rfl:ts[k]=.node ts[k].top ts[k].kids)⟩;have hr2:=hr;rw [hnode] at hr2;obtain ⟨L9,c9,A9,d9,he,_⟩:=hr2.out;injection he with e0 he
        subst e0;have hkk:ts[k].top.kind=a.kind:=by rw [hnode];rfl
        by_cases hn:a.kind=1
        ·have HR:Hid (∃ j:Nat,j<=ts.length/\Value.int .i64 ((k:Int)+1)=.int .i64 (j:Int)/\Zba ts 1 j/\Below W1.heap.size W1 wr):=hQ ⟨k+1,hlt,by simp,by
          unfold Zba at *
          rw [List.take_succ_eq_append_getElem hlt,List.all_append,hst];simp [hkk,hn],hb⟩
         rw [hn] at q0;clear hr hr2 he hnode hkk hn hb hst hk;go_wp2_with fail;go_roundw
         case rel=>exact HR.out
         case measure=>simp [intOf];omega
        ·have HF:=hQ (HNO.out k hlt (by rw [hkk];exact hn))
         generalize a.kind=ak at *
         clear hr hr2 he hnode hkk hb hst hk;have HZZ:Hid (∀ U:World,wr.grownBy U (some (H))->MadeP (optP (opT nm ts)) w (.returned (.tuple #[.agg #[.int .i64 0,.slice none 0 0,.slice none 0 0],.bool false])) U):=hQ (fun U hU=>HF.out ▸ (Zaj (HBW.out.grown hU HBW.out.size (fun k hk=>by injection hk with hk;have:=HH.out;omega))));have r0:=BR.out.c0;have r1:=BR.out.c1;have r2:=BR.out.c2;have s0:=BR.out.free 0;have s1:=BR.out.free 1;have s2:=BR.out.free 2;go_wp2_with fail;generalize hU:((wr.setCell ⟨H,0,none⟩ (.int .i64 0)).setCell ⟨H,1,none⟩ (.slice none 0 0)).setCell ⟨H,2,none⟩ (.slice none 0 0)=U;have hgU:wr.grownBy U (some (H)):=by rw [<-hU];exact Zaa (Zaa (Zaa (gQ) _) _) _
         have u1:Box3 U (H) 38 (.int .i64 0) (.slice none 0 0) (.slice none 0 0):=by
          rw [<-hU];exact ((BR.out.set0 _).set1 _).set2 _
         have HRR:=hQ (HZZ.out U hgU);have t0:=u1.c0;have t1:=u1.c1;have t2:=u1.c2;clear hU hgU u1 r0 r1 r2 s0 s1 s2;exact bodyPost_ret (v:=.tuple #[.agg #[.int .i64 0,.slice none 0 0,.slice none 0 0],.bool false]) (by simp [results,Tryz.results131,go_sem,t0,t1,t2]) rfl HRR.out
       ·have he:k=ts.length:=by omega
        subst he;have HG:Hid (optP (opT nm ts)=(Zaq nm,true)):=hQ (by rw [HALL.out (by unfold Zba at hst;rwa [List.take_length] at hst)];rfl);clear hb hst hk;have HC:=hQ (show Calls Tryz.prog _ #[] wr (MadeT Zah wr) from Zdc wr);have HF:Hid (optP (opT nm ts)=(Zah,true)):=hQ (by rw [HG.out,HGV.out]);go_wp2_with fail;refine HC.out.mono ?_;rintro e w3 hmade;have hb3:Below wr.heap.size wr w3:=by
         obtain ⟨_,_,_,_,_,_,_,_,hb3⟩:=hmade;exact hb3
        have HBX:=hQ (BR.out.under hb3 BR.out.lt);have HM:=hQ (fun (U:World) (hU:w3.grownBy U (some (H)))=>Zcz (b:=true) (w:=w) (U:=U) hmade HBW.out (by have:=HS1.out;omega) (by have:=HH.out;omega) hU);obtain ⟨LL,AA,lc,dd,rfl,_⟩:=HM.out w3 (gQ);have HM2:Hid (∀ U:World,w3.grownBy U (some (H))->MadeP (optP (opT nm ts)) w (.returned (.tuple #[.agg #[.int .i64 (Zah).top.kind,.slice LL (Zah).top.labels.length lc,.slice AA (Zah).kids.length dd],.bool true])) U):=hQ (by
         intro U hU
         obtain ⟨L9,A9,c9,d9,e9,h9⟩:=HM.out U hU;injection e9 with e9
         rw [<-e9] at h9;exact HF.out ▸ h9)
        have r0:=HBX.out.c0;have r1:=HBX.out.c1;have r2:=HBX.out.c2;have s0:=HBX.out.free 0;have s1:=HBX.out.free 1;have s2:=HBX.out.free 2;generalize (Zah).top.kind=y0 at HM2 ⊢;generalize (Zah).top.labels.length=y1 at HM2 ⊢;generalize (Zah).kids.length=y2 at HM2 ⊢;clear hmade hb3 HM;go_wp2_with fail;generalize hU:((w3.setCell ⟨H,0,none⟩ (.int .i64 y0)).setCell ⟨H,1,none⟩ (.slice LL y1 lc)).setCell ⟨H,2,none⟩ (.slice AA y2 dd)=U;have hgU:w3.grownBy U (some (H)):=by rw [<-hU];exact Zaa (Zaa (Zaa (gQ) _) _) _
        have u1:Box3 U (H) 38 (.int .i64 y0) (.slice LL y1 lc) (.slice AA y2 dd):=by
         rw [<-hU];exact ((HBX.out.set0 _).set1 _).set2 _
        have HRR:=hQ (HM2.out U hgU);have t0:=u1.c0;have t1:=u1.c1;have t2:=u1.c2;clear hU hgU u1 r0 r1 r2 s0 s1 s2;exact bodyPost_ret (v:=.tuple #[.agg #[.int .i64 y0,.slice LL y1 lc,.slice AA y2 dd],.bool true]) (by simp [results,Tryz.results131,go_sem,t0,t1,t2]) rfl HRR.out
end Go.Proofs.YtlcedleebbgebaaGreatDoor
