/-
  Merged by program: TypS7.
-/
import Derived.Test.YtlcedleebbgebaaGreatDoorQ34
set_option maxRecDepth 100000
set_option maxHeartbeats 16000000
set_option linter.all false
namespace Go.Proofs.YtlcedleebbgebaaGreatDoor
open Go.RowKit
theorem Zvb {t:Ty}(h:Zae t=true)(hk:t.top.kind=4):∃ u,t.kids=[u]:=by
 obtain ⟨a,ks⟩:=t;have hk:a.kind=4:=hk;unfold Zae at h;simp only [Bool.and_eq_true] at h;have h1:=h.2.2;rw [Zcr] at h1;simp only [Bool.and_eq_true] at h1;have h2:=h1.2;unfold formA at h2;rw [if_neg (by omega)] at h2;simp only [Bool.and_eq_true,decide_eq_true_eq] at h2;have h3:=h2.2.2;rw [hk] at h3;have h4:ks.length=1:=by
  have:want 4=1:=rfl
  omega
 match ks,h4 with
 | [u],_=>exact ⟨u,rfl⟩
def forU (o:Option Ty):Option Ty:=o.bind fun b=>ifAny (isBag b) b
noncomputable def forT (xs:Sc)(c:Cx)(a:TeA)(u:Te)(o:Option Ty):Option Ty:=o.bind fun t1=>if isBag t1 then forU (Tr.typ xs u (c ++ [(a.name,arg t1.kids 0)])) else none
theorem Zabh {xs:Sc}{c:Cx}{a:TeA}{t u:Te}(hk:a.kind=10):someT xs c a [t,u]=forT xs c a u (Tr.typ xs t c):=by
 unfold someT forT;rw [List.map_cons,List.map_cons,List.map_nil,Zan,Ztz hk];simp only;cases Tr.typ xs t c with
 | none=>rfl
 | some t1=>
  show (Zan a c [Tr.typ xs u] [t1]).bind _=(if isBag t1 then forU (Tr.typ xs u (c ++ [(a.name,arg t1.kids 0)])) else none)
  rw [Zan,Zlx hk];by_cases hb:isBag t1=true
  ·rw [if_pos hb,if_pos hb]
   show ((match Tr.typ xs u (c ++ [(a.name,arg t1.kids 0)]) with|none=>none|some t=>Zan a c [] ([t1] ++ [t])).bind _)=_
   cases Tr.typ xs u (c ++ [(a.name,arg t1.kids 0)]) with
   | none=>rfl
   | some b=>
    show (Zan a c [] [t1,b]).bind _=ifAny (isBag b) b
    rw [Zan]
    show Zac xs c a [t1,b]=_
    unfold Zac;(iterate 9 rw [if_neg (by rw [hk];decide)]);rw [if_pos hk]
    rfl
  ·rw [if_neg hb,if_neg hb]
   rfl
theorem Zzn {w W V U:World}{lo G P:Nat}{o:Option Ty}{y0:Int}{L A:Option Addr}{y1 l y2 d:Nat}{bb b:Bool}(h:BindR W lo o P y0 L y1 l A y2 d bb V)(hB:Below w.heap.size w W)(hG:G < lo)(hwG:w.heap.size<=G)(hU:V.grownBy U (some G)) :
  MadeP ((optP o).1,b) w (.returned (.tuple #[.agg #[.int .i64 y0,.slice L y1 l,.slice A y2 d],.bool b])) U:=by
 obtain ⟨h1,h2,h3,h4,t',fp,rfl,rfl,rfl,rfl,hot,hfp⟩:=h;have hsU:=hU.size;have hlt:=h2.lt;refine ⟨L,A,l,d,fp,rfl,hot.keep hU (fun b hm e=>by injection e with e;have:=(hfp b hm).1;omega),fun b hm=>?_,(hB.trans (h1.mono hB.size)).grown hU (by have:=h1.size;have:=hB.size;omega) (fun k hk=>by injection hk with hk;omega)⟩
 have:=hfp b hm
 omega
theorem BindR.drew {w V:World}{lo P:Nat}{o:Option Ty}{y0:Int}{L A:Option Addr}{y1 l y2 d:Nat}{bb:Bool}(h:BindR w lo o P y0 L y1 l A y2 d bb V):BindR w lo o P y0 L y1 l A y2 d bb V.drew:=by
 obtain ⟨h1,h2,h3,h4,t',fp,e1,e2,e3,e4,hot,hfp⟩:=h;exact ⟨h1.drew,h2,h3,h4,t',fp,e1,e2,e3,e4,hot.under bQ.drew,hfp⟩
theorem Zacp (xs:Sc)(c:Cx)(a:TeA)(t u:Te)(A:Option Addr)(d:Nat)(w:World)(ss cs:List Value)(hs:RSc w xs ss)(hc:RL kTg w A c)(h:RTe w (.node a [t,u]) cs)(hk:a.kind=10)(IHt:TypK xs t)(IHu:TypK xs u)(hsz:c.length+1+t.size+u.size<=1000)(hcw:∀ x∈c,wt x.2<=1048576)(hft:t.formE=true)(hfu:u.formE=true)(hwt:wte t<=1048576)(hwu:wte u<=1048576) :
  Calls Tryz.prog 101 #[.agg ss.toArray,.slice A c.length d,.agg cs.toArray] w (Zau (someT xs c a [t,u]) w):=by
 obtain ⟨SA,sd,rfl,hsl,hsd,hsp⟩:=hs.open;obtain ⟨TL,tc,TA,td,LE,lc0,KA,kd,rfl,hT,hLb,hok,_,_,hkp⟩:=h.out;obtain ⟨W1,hW1⟩:∃ W1,((w.alloc (.cells #[.slice SA xs.length sd] 43)).alloc (.cells #[.int .i64 a.kind,.string a.name,.int .i64 a.num,.int .i64 a.type.top.kind,.slice TL a.type.top.labels.length tc,.slice TA a.type.kids.length td,.slice LE a.labels.length lc0,.slice KA 2 kd] 49)).alloc (.cells #[.int .i64 0,.slice none 0 0,.slice none 0 0] 38)=W1:=⟨_,rfl⟩;obtain ⟨H,hH⟩:∃ H,w.heap.size=H:=⟨_,rfl⟩;have bs:Box1 W1 H 43 (.slice SA xs.length sd):=by rw [<-hW1,<-hH];exact ((Box1.new w _ _).alloc _).alloc _
 have bt:Box8 W1 (H+1) 49 (.int .i64 a.kind) (.string a.name) (.int .i64 a.num) (.int .i64 a.type.top.kind) (.slice TL a.type.top.labels.length tc) (.slice TA a.type.kids.length td) (.slice LE a.labels.length lc0) (.slice KA 2 kd):=by
  rw [<-hW1,<-hH]
  have:=(Box8.new (w.alloc (.cells #[.slice SA xs.length sd] 43)) 49 (.int .i64 a.kind) (.string a.name) (.int .i64 a.num) (.int .i64 a.type.top.kind) (.slice TL a.type.top.labels.length tc) (.slice TA a.type.kids.length td) (.slice LE a.labels.length lc0) (.slice KA 2 kd)).alloc (.cells #[.int .i64 0,.slice none 0 0,.slice none 0 0] 38)
  simpa using this
 have br:Box3 W1 (H+1+1) 38 (.int .i64 0) (.slice none 0 0) (.slice none 0 0):=by
  rw [<-hW1,<-hH]
  have:=Box3.new ((w.alloc (.cells #[.slice SA xs.length sd] 43)).alloc (.cells #[.int .i64 a.kind,.string a.name,.int .i64 a.num,.int .i64 a.type.top.kind,.slice TL a.type.top.labels.length tc,.slice TA a.type.kids.length td,.slice LE a.labels.length lc0,.slice KA 2 kd] 49)) 38 (.int .i64 0) (.slice none 0 0) (.slice none 0 0)
  simpa using this
 have hb1:Below w.heap.size w W1:=by rw [<-hW1];exact ((bQ.alloc nQ _).alloc (by simp) _).alloc (by simp;omega) _
 have hs1:W1.heap.size=H+3:=by rw [<-hW1,<-hH];simp
 have HB1:=hQ hb1;have HS1:=hQ hs1;have HH:=hQ hH;have HW1:=hQ hW1;have BR:=hQ br;have hks:([t,u]:List Te).length=2:=rfl;obtain ⟨ad,p,k0,k1,k2,k3,k4,k5,k6,k7,rfl,hpe,hkt,q0,q1,q2,q3,q4,q5,q6,q7⟩:=Zfj (hkp.keep hb1) bQ (k:=0) (by simp);have hpe:ad=p:=by rw [<-hpe];rfl
 subst hpe;obtain ⟨ad2,pu,m0,m1,m2,m3,m4,m5,m6,m7,hae,hpu,hku,j0,j1,j2,j3,j4,j5,j6,j7⟩:=Zfj (hkp.keep hb1) bQ (k:=1) (by simp);injection hae with hae
 subst hae;have hpw:ad.add 8=pu:=hpu;have hcl:c.length<=1048576:=by omega
 have hnm:a.name.size<=9223372036854775807:=hok.2.2.1;obtain ⟨o1,ho1⟩:∃ o1,Tr.typ xs t c=o1:=⟨_,rfl⟩;have HT1:Hid (∀ (W:World) (_:Below W1.heap.size W1 W) (_:Below w.heap.size w W),Calls Tryz.prog 32 #[.agg #[.slice SA xs.length sd],.slice A c.length d,.agg #[k0,k1,k2,k3,k4,k5,k6,k7]] W (MadeP (optP o1) W)):=hQ (fun W hB hB0=>by
  have hh:=IHt W c A d _ [k0,k1,k2,k3,k4,k5,k6,k7] (hs.keep hB0) (hc.keep hB0) (hkt.keep hB) (by omega) hcw hft hwt;rw [ho1] at hh;exact hh)
 have HT2:Hid (∀ (el:Ty) (_:wt el<=1048576) (W:World) (B:Option Addr) (bd:Nat) (_:Below W1.heap.size W1 W) (_:Below w.heap.size w W) (_:RL kTg W B (c ++ [(a.name,el)])),Calls Tryz.prog 32 #[.agg #[.slice SA xs.length sd],.slice B (c.length+1) bd,.agg #[m0,m1,m2,m3,m4,m5,m6,m7]] W (MadeP (optP (Tr.typ xs u (c ++ [(a.name,el)]))) W)):=hQ (fun el hel W B bd hB hB0 hp=>by
  have hlen1:(c ++ [(a.name,el)]).length=c.length+1:=by simp
  have hh:=IHu W (c ++ [(a.name,el)]) B bd _ [m0,m1,m2,m3,m4,m5,m6,m7] (hs.keep hB0) hp (hku.keep hB) (by simp;omega) (fun x hx=>by
   rcases List.mem_append.1 hx with hx|hx
   ·exact hcw x hx
   ·simp at hx;subst hx;exact hel) hfu hwu
  rw [hlen1] at hh;exact hh)
 have HWT:Hid (∀ (el:Ty) (ky:Int) (Le Be:Option Addr) (nl le nb be:Nat) (W:World) (_:Below w.heap.size w W) (_:RTy W el [.int .i64 ky,.slice Le nl le,.slice Be nb be]),Calls Tryz.prog 124 #[.slice A c.length d,.string a.name,.agg #[.int .i64 ky,.slice Le nl le,.slice Be nb be]] W (Zjk (c ++ [(a.name,el)]) W)):=hQ (fun el ky Le Be nl le nb be W hB hr=>Zjz A d c a.name el ky Le Be nl le nb be W (hc.keep hB) hcl hnm hr);have x0:=bt.c0;have x1:=bt.c1;have x7:=bt.c7;have zs:=bs.c0;rw [hks] at *
 rw [hk] at HW1 x0 ⊢;have UP:Hid (∀ W,Below W1.heap.size W1 W->W.cell? ⟨H,0,none⟩=some (.slice SA xs.length sd)/\W.cell? ⟨H+1,1,none⟩=some (.string a.name)/\W.cell? ⟨H+1,7,none⟩=some (.slice (some ad) 2 kd)/\W.cell? ad=some k0/\W.cell? ⟨ad.block,ad.off+1,none⟩=some k1/\W.cell? ⟨ad.block,ad.off+2,none⟩=some k2/\W.cell? ⟨ad.block,ad.off+3,none⟩=some k3/\W.cell? ⟨ad.block,ad.off+4,none⟩=some k4/\W.cell? ⟨ad.block,ad.off+5,none⟩=some k5/\W.cell? ⟨ad.block,ad.off+6,none⟩=some k6/\W.cell? ⟨ad.block,ad.off+7,none⟩=some k7/\W.cell? pu=some m0/\W.cell? ⟨pu.block,pu.off+1,none⟩=some m1/\W.cell? ⟨pu.block,pu.off+2,none⟩=some m2/\W.cell? ⟨pu.block,pu.off+3,none⟩=some m3/\W.cell? ⟨pu.block,pu.off+4,none⟩=some m4/\W.cell? ⟨pu.block,pu.off+5,none⟩=some m5/\W.cell? ⟨pu.block,pu.off+6,none⟩=some m6/\W.cell? ⟨pu.block,pu.off+7,none⟩=some m7):=hQ (fun W hB=>⟨uQ hB zs,uQ hB x1,uQ hB x7,uQ hB q0,uQ hB q1,uQ hB q2,uQ hB q3,uQ hB q4,uQ hB q5,uQ hB q6,uQ hB q7,uQ hB j0,uQ hB j1,uQ hB j2,uQ hB j3,uQ hB j4,uQ hB j5,uQ hB j6,uQ hB j7⟩);have HN:Hid (someT xs c a [t,u]=forT xs c a u o1):=hQ (by rw [Zabh hk,ho1]);have HO:=hQ ho1;clear ho1 hk hs hc h hsp hT hLb hok hkp hW1 bt bs br hb1 hs1 hkt hku hpu IHt IHu hcw hft hfu hwt hwu hsl hsd hks hsz hnm hcl;go_enter Tryz.func101,Tryz.ntmps101;go_wp2_with fail;rw [HW1.out];go_wp2_with fail;clear x0 x1 x7 zs q0 q1 q2 q3 q4 q5 q6 q7 j0 j1 j2 j3 j4 j5 j6 j7;obtain ⟨WZ,hWZ⟩:∃ WZ,W1.heap.size=WZ:=⟨_,rfl⟩;have HWZ:=hQ hWZ;clear hWZ;have UP4:Hid (∀ W,Below W1.heap.size W1 W->W.cell? ⟨H,0,none⟩=some (.slice SA xs.length sd)/\W.cell? ⟨H+1,7,none⟩=some (.slice (some ad) 2 kd)/\W.cell? ad=some k0/\W.cell? ⟨ad.block,ad.off+1,none⟩=some k1/\W.cell? ⟨ad.block,ad.off+2,none⟩=some k2/\W.cell? ⟨ad.block,ad.off+3,none⟩=some k3/\W.cell? ⟨ad.block,ad.off+4,none⟩=some k4/\W.cell? ⟨ad.block,ad.off+5,none⟩=some k5/\W.cell? ⟨ad.block,ad.off+6,none⟩=some k6/\W.cell? ⟨ad.block,ad.off+7,none⟩=some k7):=hQ (fun W hB=>by
  obtain ⟨fzs,fx1,fx7,fq0,fq1,fq2,fq3,fq4,fq5,fq6,fq7,fj0,fj1,fj2,fj3,fj4,fj5,fj6,fj7⟩:=UP.out W hB;exact ⟨fzs,fx7,fq0,fq1,fq2,fq3,fq4,fq5,fq6,fq7⟩)
 apply Zjd (R:=fun P y0 L9 y1 l9 A9 y2 d9 bb B bd W=>BindR W1 WZ o1 P y0 L9 y1 l9 A9 y2 d9 bb W)
 rotate_left 1
 ·have hq0:Below W1.heap.size W1 W1.drew:=bQ.drew
  have UPo:=UP4.out;go_region_held3 (fun W=>W.cell? ⟨H,0,none⟩=some (.slice SA xs.length sd)/\W.cell? ⟨H+1,7,none⟩=some (.slice (some ad) 2 kd)/\W.cell? ad=some k0/\W.cell? ⟨ad.block,ad.off+1,none⟩=some k1/\W.cell? ⟨ad.block,ad.off+2,none⟩=some k2/\W.cell? ⟨ad.block,ad.off+3,none⟩=some k3/\W.cell? ⟨ad.block,ad.off+4,none⟩=some k4/\W.cell? ⟨ad.block,ad.off+5,none⟩=some k5/\W.cell? ⟨ad.block,ad.off+6,none⟩=some k6/\W.cell? ⟨ad.block,ad.off+7,none⟩=some k7)
   (first | exact UPo _ hq0 | exact UPo _ (by assumption) | exact UPo _ (Below.alloc (by assumption) (Below.size (by assumption)) _) | go_keep)
   (first
    | (go_at_call 32;refine (HT1.out _ (by first | exact hq0 | exact hq0.alloc hq0.size _) (HB1.out.trans (Below.mono (by first | exact hq0 | exact hq0.alloc hq0.size _) HB1.out.size))).mono ?_;rintro e w3 hm;obtain ⟨y0,L9,y1,l9,A9,y2,d9,bb,rfl,hb3,hc3,hN3⟩:=Zjc (w:=W1) (lo:=W1.heap.size) hm (by first | exact hq0 | exact hq0.alloc hq0.size _) (by first | exact hq0.size | exact (hq0.alloc hq0.size _).size) nQ;have hq2:Below W1.heap.size W1 w3:=(by first | exact hq0.trans (hb3.mono hq0.size) | exact (hq0.alloc hq0.size _).trans (hb3.mono (hq0.alloc hq0.size _).size));have hq2a:=hc3.1;(try have hN:=hN3 W1.heap.size _ _ _ nQ (Box3.new W1.drew 38 _ _ _));(try have hq3:=hN.2.1);(try have n0:=hN.1.c0);(try have n1:=hN.1.c1);(try have n2:=hN.1.c2);(try have g0:=hN.1.free 0);(try have g1:=hN.1.free 1);(try have g2:=hN.1.free 2);clear hm hb3 hN3))
  all_goals first | refine NoPanic.normal ?_ | skip
  all_goals rw [HWZ.out] at *
  all_goals obtain ⟨B,_⟩:∃ B:Option Addr,True:=⟨none,trivial⟩
  all_goals obtain ⟨bd,_⟩:∃ bd:Nat,True:=⟨0,trivial⟩
  all_goals first
   | (obtain ⟨P,hP⟩:∃ P,WZ=P:=⟨_,rfl⟩;have hh:=hN.2;rw [hP] at hh ⊢;exact Zbc P y0 L9 y1 l9 A9 y2 d9 bb B bd hh)
   | (obtain ⟨P,hP⟩:∃ P,w3.heap.size=P:=⟨_,rfl⟩;have hh:=hc3;rw [hP] at hh ⊢;exact Zbc P y0 L9 y1 l9 A9 y2 d9 bb B bd hh)
 rintro P y0 L9 y1 l9 A9 y2 d9 bb B bd W ⟨hbW,bxP,hP,hbb,t',fp,ht',e0,e1,e2,hot,hfp⟩;rw [<-HWZ.out] at hP;have n0:=bxP.c0;have n1:=bxP.c1;have n2:=bxP.c2;have HWB:=hQ (HB1.out.trans (hbW.mono HB1.out.size));have BRW:=hQ (BR.out.under hbW BR.out.lt);have HBW:=hQ hbW;have HSW:Hid (H+1+1 < W.heap.size):=hQ (by have:=hbW.size;have:=HS1.out;omega);clear HWZ HT1 UP4 bxP hbW;cases o1 with
 | none=>
  have hbb2:bb=false:=hbb;clear hbb;subst hbb2;have HNN:Hid (someT xs c a [t,u]=none):=hQ HN.out;clear ht' e0 e1 e2 hot hfp hP HT2 HWT UP HO HN;have HZZ:Hid (∀ U:World,W.grownBy U (some (H+1+1))->Zau (someT xs c a [t,u]) w (.returned (.tuple #[.agg #[.int .i64 0,.slice none 0 0,.slice none 0 0],.bool false])) U):=hQ (fun U hU=>(fun h=>by rw [HNN.out];exact Zcj h) <| (Zaj (HWB.out.grown hU HWB.out.size (fun k hk=>by injection hk with hk;have:=HH.out;omega))));have r0:=BRW.out.c0;have r1:=BRW.out.c1;have r2:=BRW.out.c2;have s0:=BRW.out.free 0;have s1:=BRW.out.free 1;have s2:=BRW.out.free 2;go_wp2_with fail;generalize hU:((W.setCell ⟨H+1+1,0,none⟩ (.int .i64 0)).setCell ⟨H+1+1,1,none⟩ (.slice none 0 0)).setCell ⟨H+1+1,2,none⟩ (.slice none 0 0)=U;have hgU:W.grownBy U (some (H+1+1)):=by rw [<-hU];exact Zaa (Zaa (Zaa (gQ) _) _) _
  have u1:Box3 U (H+1+1) 38 (.int .i64 0) (.slice none 0 0) (.slice none 0 0):=by
   rw [<-hU];exact ((BRW.out.set0 _).set1 _).set2 _
  have HRR:=hQ (HZZ.out U hgU);have tt0:=u1.c0;have tt1:=u1.c1;have tt2:=u1.c2;clear hU hgU u1 r0 r1 r2 s0 s1 s2 n0 n1 n2;exact bodyPost_ret (v:=.tuple #[.agg #[.int .i64 0,.slice none 0 0,.slice none 0 0],.bool false]) (by simp [results,Tryz.results101,go_sem,tt0,tt1,tt2]) rfl HRR.out
 | some t1=>
  have hbb2:bb=true:=hbb;have ht2:t'=t1:=ht';clear hbb ht';subst hbb2 ht2;have HVT:=hQ (Zfy HO.out);by_cases hq:y0=4
  ·subst hq
   obtain ⟨el,hel⟩:=Zvb HVT.out e0;obtain ⟨-,fpK,hol⟩:=Zsg hot;rw [hel] at hol;have e3:1=y2:=by rw [<-e2,hel];rfl
   clear e2;subst e3;obtain ⟨g,rfl,-,hat⟩:=Zgr hol (by simp);obtain ⟨Le,Be,le,be,fe,y0c,y1c,y2c,oel,-,-⟩:=hat 0 (by simp);simp only [List.getElem_cons_zero,Nat.zero_mul,Nat.zero_add] at y0c y1c y2c oel;have hbag:isBag t'=true:=by unfold isBag;rw [e0];rfl
   have hwel:wt el<=1048576:=by
    have h1:=Zbq HVT.out;obtain ⟨q,ks⟩:=t';have hks:ks=[el]:=hel;exact Nat.le_trans (Zbn (show el∈ks by rw [hks];simp)) (Nat.le_trans h1 (by decide))
   have harg:arg t'.kids 0=el:=by rw [hel];rfl
   obtain ⟨o2,ho2⟩:∃ o2,Tr.typ xs u (c ++ [(a.name,el)])=o2:=⟨_,rfl⟩;have HN2:Hid (someT xs c a [t,u]=forU o2):=hQ (by rw [HN.out];show (if isBag t' then forU (Tr.typ xs u (c ++ [(a.name,arg t'.kids 0)])) else none)=_;rw [if_pos hbag,harg,ho2]);have HW2:=hQ (fun (W':World) (hB:Below W.heap.size W W')=>HWT.out el _ _ _ _ _ _ _ W' (HWB.out.trans (hB.mono HWB.out.size)) ((OTy.reads oel).keep hB));have HTY:Hid (∀ (W':World) (B:Option Addr) (bd:Nat) (_:Below W.heap.size W W') (_:RL kTg W' B (c ++ [(a.name,el)])),Calls Tryz.prog 32 #[.agg #[.slice SA xs.length sd],.slice B (c.length+1) bd,.agg #[m0,m1,m2,m3,m4,m5,m6,m7]] W' (MadeP (optP o2) W')):=hQ (fun W' B bd hB hp=>by
    have hh:=HT2.out el hwel W' B bd (HBW.out.trans (hB.mono HBW.out.size)) (HWB.out.trans (hB.mono HWB.out.size)) hp;rw [ho2] at hh;exact hh)
   have UP7:Hid (∀ W',Below W.heap.size W W'->W'.cell? ⟨H,0,none⟩=some (.slice SA xs.length sd)/\W'.cell? ⟨H+1,1,none⟩=some (.string a.name)/\W'.cell? ⟨H+1,7,none⟩=some (.slice (some ad) 2 kd)/\W'.cell? pu=some m0/\W'.cell? ⟨pu.block,pu.off+1,none⟩=some m1/\W'.cell? ⟨pu.block,pu.off+2,none⟩=some m2/\W'.cell? ⟨pu.block,pu.off+3,none⟩=some m3/\W'.cell? ⟨pu.block,pu.off+4,none⟩=some m4/\W'.cell? ⟨pu.block,pu.off+5,none⟩=some m5/\W'.cell? ⟨pu.block,pu.off+6,none⟩=some m6/\W'.cell? ⟨pu.block,pu.off+7,none⟩=some m7/\W'.cell? ⟨P,2,none⟩=some (.slice (some ⟨g,0,none⟩) 1 d9)/\W'.cell? ⟨g,0,none⟩=some (.int .i64 el.top.kind)/\W'.cell? ⟨g,1,none⟩=some (.slice Le el.top.labels.length le)/\W'.cell? ⟨g,2,none⟩=some (.slice Be el.kids.length be)):=hQ (fun W' hB=>by
    obtain ⟨fzs,fx1,fx7,fq0,fq1,fq2,fq3,fq4,fq5,fq6,fq7,fj0,fj1,fj2,fj3,fj4,fj5,fj6,fj7⟩:=UP.out W' (HBW.out.trans (hB.mono HBW.out.size));exact ⟨fzs,fx1,fx7,fj0,fj1,fj2,fj3,fj4,fj5,fj6,fj7,uQ hB n2,uQ hB y0c,uQ hB y1c,uQ hB y2c⟩)
   have HO2:=hQ ho2;have hgP:Hid (P < W.heap.size):=hQ (World.block_lt_of_cell? _ _ n0);clear e0 e1 hot hfp hP hel hol hat y0c y1c y2c oel hbag hwel harg ho2 HT2 HWT HN HO UP;obtain ⟨czs,cx1,cx7,cj0,cj1,cj2,cj3,cj4,cj5,cj6,cj7,cn2,cy0c,cy1c,cy2c⟩:=UP7.out W bQ;go_wp2_with fail;clear n0 n1 n2 czs cx1 cx7 cj0 cj1 cj2 cj3 cj4 cj5 cj6 cj7 cn2 cy0c cy1c cy2c;obtain ⟨WY,hWY⟩:∃ WY,W.heap.size=WY:=⟨_,rfl⟩;have HWY:=hQ hWY;clear hWY;apply Zjd (R:=fun P2 z0 M9 z1 m9 D9 z2 e9 cc B bd V=>BindR W WY o2 P2 z0 M9 z1 m9 D9 z2 e9 cc V)
   rotate_left 1
   ·have hq0:Below W.heap.size W W.drew:=bQ.drew
    have UPo:=UP7.out;go_region_held3 (fun W=>W.cell? ⟨H,0,none⟩=some (.slice SA xs.length sd)/\W.cell? ⟨H+1,1,none⟩=some (.string a.name)/\W.cell? ⟨H+1,7,none⟩=some (.slice (some ad) 2 kd)/\W.cell? pu=some m0/\W.cell? ⟨pu.block,pu.off+1,none⟩=some m1/\W.cell? ⟨pu.block,pu.off+2,none⟩=some m2/\W.cell? ⟨pu.block,pu.off+3,none⟩=some m3/\W.cell? ⟨pu.block,pu.off+4,none⟩=some m4/\W.cell? ⟨pu.block,pu.off+5,none⟩=some m5/\W.cell? ⟨pu.block,pu.off+6,none⟩=some m6/\W.cell? ⟨pu.block,pu.off+7,none⟩=some m7/\W.cell? ⟨P,2,none⟩=some (.slice (some ⟨g,0,none⟩) 1 d9)/\W.cell? ⟨g,0,none⟩=some (.int .i64 el.top.kind)/\W.cell? ⟨g,1,none⟩=some (.slice Le el.top.labels.length le)/\W.cell? ⟨g,2,none⟩=some (.slice Be el.kids.length be))
     (first | exact UPo _ hq0 | exact UPo _ (by assumption) | exact UPo _ (Below.alloc (by assumption) (Below.size (by assumption)) _) | go_keep)
     (first
      | (go_at_call 124;refine (HW2.out _ (by first | exact hq0 | exact hq0.alloc hq0.size _)).mono ?_;rintro e w2 ⟨B,bd,rfl,hbd,hp2,hb2⟩;have hq1:Below W.heap.size W w2:=(by first | exact hq0.trans (hb2.mono hq0.size) | exact (hq0.alloc hq0.size _).trans (hb2.mono (hq0.alloc hq0.size _).size));have hq1a:Below W.heap.size W (w2.alloc (.cells #[.int .i64 0,.slice none 0 0,.slice none 0 0] 38)):=hq1.alloc hq1.size _;(try have bx0:Box3 w2 W.heap.size 38 (.int .i64 0) (.slice none 0 0) (.slice none 0 0):=(Box3.new W.drew 38 _ _ _).under hb2 (by simp));clear hbd hb2)
      | (go_at_call 32;refine (HTY.out _ B bd (by first | exact hq1 | exact hq1a) (by first | exact hp2 | exact hp2.keep (bQ.alloc nQ _))).mono ?_;rintro e w3 hm;obtain ⟨z0,M9,z1,m9,D9,z2,e9,cc,rfl,hb3,hc3,hN3⟩:=Zjc (w:=W) (lo:=W.heap.size) hm (by first | exact hq1 | exact hq1a) (by first | exact hq1.size | exact hq1a.size) nQ;have hq2:Below W.heap.size W w3:=(by first | exact hq1.trans (hb3.mono hq1.size) | exact hq1a.trans (hb3.mono hq1a.size));have hq2a:=hc3.1;(try have hN:=hN3 W.heap.size _ _ _ nQ bx0);(try have hN:=hN3 w2.heap.size _ _ _ hq1.size (Box3.new w2 38 _ _ _));(try have hq3:=hN.2.1);(try have n0:=hN.1.c0);(try have n1:=hN.1.c1);(try have n2:=hN.1.c2);(try have g0:=hN.1.free 0);(try have g1:=hN.1.free 1);(try have g2:=hN.1.free 2);clear hm hb3 hN3))
    all_goals first | refine NoPanic.normal ?_ | skip
    all_goals rw [HWY.out] at *
    all_goals first
     | (obtain ⟨P2,hP2⟩:∃ P2,w2.heap.size=P2:=⟨_,rfl⟩;have hh:=hN.2;rw [hP2] at hh ⊢;exact Zbc P2 z0 M9 z1 m9 D9 z2 e9 cc B bd hh)
     | (obtain ⟨P2,hP2⟩:∃ P2,WY=P2:=⟨_,rfl⟩;have hh:=hN.2;rw [hP2] at hh ⊢;exact Zbc P2 z0 M9 z1 m9 D9 z2 e9 cc B bd hh)
     | (obtain ⟨P2,hP2⟩:∃ P2,w3.heap.size=P2:=⟨_,rfl⟩;have hh:=hc3;rw [hP2] at hh ⊢;exact Zbc P2 z0 M9 z1 m9 D9 z2 e9 cc B bd hh)
   rintro P2 z0 M9 z1 m9 D9 z2 e9 cc B bd V hbr;rw [<-HWY.out] at hbr;have HBP:=hQ (fun (b:Bool) (U:World) (hU:V.drew.grownBy U (some (H+1+1)))=>Zzn (b:=b) hbr.drew HWB.out HSW.out (by have:=HH.out;omega) hU);obtain ⟨hbV,bxP2,hP2,hcc,u',fq,hu',f0,_,_,_,_⟩:=hbr;have BRV:=hQ (BRW.out.under hbV BRW.out.lt);have BRVd:=hQ (show Box3 V.drew (H+1+1) 38 (.int .i64 0) (.slice none 0 0) (.slice none 0 0) from BRW.out.under hbV.drew BRW.out.lt);have hgn:P2≠H+1+1:=fun e=>by have:=HSW.out;omega
   have hgm:¬ H+1+1=P2:=fun e=>hgn e.symm
   have n0:=bxP2.c0;have n1:=bxP2.c1;have n2:=bxP2.c2;have s0:=BRV.out.free 0;have s1:=BRV.out.free 1;have s2:=BRV.out.free 2;have r0:=BRV.out.c0;have r1:=BRV.out.c1;have r2:=BRV.out.c2;clear hbV hP2 HW2 HTY UP7 HWY bxP2;cases o2 with
   | none=>
    have hcc2:cc=false:=hcc;clear hcc;subst hcc2;clear hu' f0;go_wp2_with fail;refine wp_region_noPanic ?_;refine wp_region_held_drew (S:=(fun W=>W.cell? ⟨P2,0,none⟩=some (.int .i64 z0)/\W.cell? ⟨P2,1,none⟩=some (.slice M9 z1 m9)/\W.cell? ⟨P2,2,none⟩=some (.slice D9 z2 e9))) (by kernel_rfl) ?_ (fun hHeld=>?_)
    ·(try dsimp only);(refine ⟨?_,?_,?_⟩ <;> assumption)
    refine wpAnyH_take (i:=0) (oi:=⟨some 72,.load 38 (.tmp 12),38, "l10_typing.go:56",#[],none⟩) (v:=?v0False) rfl (by kernel_rfl) (by kernel_rfl) (by kernel_rfl) (fun _ _ _ h=>h) (Or.inl ⟨by rfl,?y0False⟩) (by assumption) ?r0False
    case y0False=>(intro w' hSw;(try dsimp only at hSw);go_simp;all_goals with_reducible rfl)
    try simp only [Act.put,sQ,tQ,vQ]
    refine wpAnyH_take (i:=1) (oi:=⟨some 73,.move (.tmp 13),4, "l10_typing.go:56",#[],none⟩) (v:=?v1False) rfl (by kernel_rfl) (by kernel_rfl) (by kernel_rfl) (fun _ _ _ h=>h) (Or.inl ⟨by rfl,?y1False⟩) (by assumption) ?r1False
    case y1False=>(intro w' hSw;(try dsimp only at hSw);go_simp;all_goals with_reducible rfl)
    try simp only [Act.put,sQ,tQ,vQ]
    refine wpAnyH_take (i:=2) (oi:=⟨some 74,.move (.tmp 73),4, "l10_typing.go:56",#[⟨1,.data⟩],none⟩) (v:=?v2False) rfl (by kernel_rfl) (by kernel_rfl) (by kernel_rfl) (fun _ _ _ h=>h) (Or.inl ⟨by rfl,?y2False⟩) (by assumption) ?r2False
    case y2False=>(intro w' hSw;(try dsimp only at hSw);go_simp;all_goals with_reducible rfl)
    try simp only [Act.put,sQ,tQ,vQ]
    refine wpAnyH_take (i:=3) (oi:=⟨some 75,.fieldAddr 38 (.tmp 12) 0,0, "l10_typing.go:56",#[⟨2,.guard⟩,⟨7,.gcOnly .lateStores⟩],some (2,true)⟩) (v:=undef) rfl (by kernel_rfl) (by kernel_rfl) (by kernel_rfl) (fun _ _ _ h=>h) (Or.inr ⟨by rfl,rfl⟩) (by assumption) ?_
    try simp only [Act.put,sQ,tQ,vQ]
    refine wpAnyH_take (i:=4) (oi:=⟨some 76,.load 3 (.tmp 75),3, "l10_typing.go:56",#[⟨3,.data⟩,⟨2,.guard⟩,⟨7,.gcOnly .lateStores⟩],some (2,true)⟩) (v:=undef) rfl (by kernel_rfl) (by kernel_rfl) (by kernel_rfl) (fun _ _ _ h=>h) (Or.inr ⟨by rfl,rfl⟩) (by assumption) ?_
    try simp only [Act.put,sQ,tQ,vQ]
    refine wpAnyH_take (i:=5) (oi:=⟨some 77,.binOp .eql 3 (.tmp 76) (.const (.int .i64 4)) 3,4, "l10_typing.go:56",#[⟨4,.data⟩,⟨2,.guard⟩,⟨7,.gcOnly .lateStores⟩],some (2,true)⟩) (v:=undef) rfl (by kernel_rfl) (by kernel_rfl) (by kernel_rfl) (fun _ _ _ h=>h) (Or.inr ⟨by rfl,rfl⟩) (by assumption) ?_
    try simp only [Act.put,sQ,tQ,vQ]
    refine wpAnyH_take (i:=6) (oi:=⟨some 78,.pick (.tmp 74) (.tmp 77) (.const (.bool false)),4, "l10_typing.go:56",#[⟨2,.data⟩,⟨5,.data⟩,⟨7,.gcOnly .lateStores⟩],none⟩) (v:=?v6False) rfl (by kernel_rfl) (by kernel_rfl) (by kernel_rfl) (fun _ _ _ h=>h) (Or.inl ⟨by rfl,?y6False⟩) (by assumption) ?r6False
    case y6False=>(intro w' hSw;(try dsimp only at hSw);go_simp;all_goals with_reducible rfl)
    try simp only [Act.put,sQ,tQ,vQ]
    refine wpAnyH_ready (rs:=[7]) (by kernel_rfl) (by simp) ?_;refine AllReadyH.cons (o:=⟨none,.store 38 (.tmp 6) (.tmp 72),0, "l10_typing.go:56",#[⟨0,.data⟩,⟨2,.chain⟩,⟨0,.phase⟩,⟨1,.textOnly .lateStores⟩,⟨2,.textOnly .lateStores⟩,⟨3,.textOnly .lateStores⟩,⟨4,.textOnly .lateStores⟩,⟨5,.textOnly .lateStores⟩,⟨6,.textOnly .lateStores⟩],none⟩) rfl (fun K hK=>?_) AllReadyH.nil;clear hHeld;go_simp;refine hK _ _ ?_ (fun hHeld=>?_)
    ·(try dsimp only);(refine ⟨?_,?_,?_⟩ <;> first | assumption | (simp [World.cell?_setCell_far,hgm];assumption))
    clear hK K
    try simp only [Act.put,sQ,tQ,vQ]
    refine wpAnyH_take (i:=8) (oi:=⟨some 7,.assign (.tmp 78),4, "l10_typing.go:56",#[⟨6,.data⟩,⟨7,.chain⟩,⟨0,.phase⟩,⟨1,.phase⟩,⟨2,.phase⟩,⟨3,.phase⟩,⟨4,.phase⟩,⟨5,.phase⟩,⟨6,.phase⟩,⟨7,.phase⟩],none⟩) (v:=?v8False) rfl (by kernel_rfl) (by kernel_rfl) (by kernel_rfl) (fun _ _ _ h=>h) (Or.inl ⟨by rfl,?y8False⟩) (by assumption) ?r8False
    case y8False=>(intro w' hSw;(try dsimp only at hSw);go_simp;all_goals with_reducible rfl)
    try simp only [Act.put,sQ,tQ,vQ]
    refine wpAnyH_done (by kernel_rfl) ?_ _;refine NoPanic.normal ?_;clear r0 r1 r2 s0 s1 s2;have HMM:Hid (∀ U:World,V.drew.grownBy U (some (H+1+1))->Zau (someT xs c a [t,u]) w (.returned (.tuple #[.agg #[.int .i64 z0,.slice M9 z1 m9,.slice D9 z2 e9],.bool false])) U):=hQ (fun U hU=>by
     have hm:=HBP.out false U hU;rw [HN2.out];exact Zcj hm)
    have r0:=BRVd.out.c0;have r1:=BRVd.out.c1;have r2:=BRVd.out.c2;have s0:=BRVd.out.free 0;have s1:=BRVd.out.free 1;have s2:=BRVd.out.free 2;go_wp2_with fail;generalize hU:(((V.setCell ⟨H+1+1,0,none⟩ (.int .i64 z0)).setCell ⟨H+1+1,1,none⟩ (.slice M9 z1 m9)).setCell ⟨H+1+1,2,none⟩ (.slice D9 z2 e9)).drew=U;have hgU:V.drew.grownBy U (some (H+1+1)):=by rw [<-hU];exact Zaa (Zaa (Zaa (gQ) _) _) _
    have u1:Box3 U (H+1+1) 38 (.int .i64 z0) (.slice M9 z1 m9) (.slice D9 z2 e9):=by
     rw [<-hU];exact ((BRVd.out.set0 _).set1 _).set2 _
    have HRR:=hQ (HMM.out U hgU);have tt0:=u1.c0;have tt1:=u1.c1;have tt2:=u1.c2;clear hU hgU u1 r0 r1 r2 s0 s1 s2;exact bodyPost_ret (v:=.tuple #[.agg #[.int .i64 z0,.slice M9 z1 m9,.slice D9 z2 e9],.bool false]) (by simp [results,Tryz.results101,go_sem,tt0,tt1,tt2]) rfl HRR.out
   | some b2=>
    have hcc2:cc=true:=hcc;have hu2:u'=b2:=hu';clear hcc hu';subst hcc2 hu2;have HKQ:Hid (isBag u'=(z0 == 4)):=hQ (by unfold isBag;rw [f0];rfl);clear f0;go_wp2_with fail;refine wp_region_noPanic ?_;refine wp_region_held_drew (S:=(fun W=>W.cell? ⟨P2,0,none⟩=some (.int .i64 z0)/\W.cell? ⟨P2,1,none⟩=some (.slice M9 z1 m9)/\W.cell? ⟨P2,2,none⟩=some (.slice D9 z2 e9))) (by kernel_rfl) ?_ (fun hHeld=>?_)
    ·(try dsimp only);(refine ⟨?_,?_,?_⟩ <;> assumption)
    refine wpAnyH_take (i:=0) (oi:=⟨some 72,.load 38 (.tmp 12),38, "l10_typing.go:56",#[],none⟩) (v:=?v0True) rfl (by kernel_rfl) (by kernel_rfl) (by kernel_rfl) (fun _ _ _ h=>h) (Or.inl ⟨by rfl,?y0True⟩) (by assumption) ?r0True
    case y0True=>(intro w' hSw;(try dsimp only at hSw);go_simp;all_goals with_reducible rfl)
    try simp only [Act.put,sQ,tQ,vQ]
    refine wpAnyH_take (i:=1) (oi:=⟨some 73,.move (.tmp 13),4, "l10_typing.go:56",#[],none⟩) (v:=?v1True) rfl (by kernel_rfl) (by kernel_rfl) (by kernel_rfl) (fun _ _ _ h=>h) (Or.inl ⟨by rfl,?y1True⟩) (by assumption) ?r1True
    case y1True=>(intro w' hSw;(try dsimp only at hSw);go_simp;all_goals with_reducible rfl)
    try simp only [Act.put,sQ,tQ,vQ]
    refine wpAnyH_take (i:=2) (oi:=⟨some 74,.move (.tmp 73),4, "l10_typing.go:56",#[⟨1,.data⟩],none⟩) (v:=?v2True) rfl (by kernel_rfl) (by kernel_rfl) (by kernel_rfl) (fun _ _ _ h=>h) (Or.inl ⟨by rfl,?y2True⟩) (by assumption) ?r2True
    case y2True=>(intro w' hSw;(try dsimp only at hSw);go_simp;all_goals with_reducible rfl)
    try simp only [Act.put,sQ,tQ,vQ]
    refine wpAnyH_take (i:=3) (oi:=⟨some 75,.fieldAddr 38 (.tmp 12) 0,0, "l10_typing.go:56",#[⟨2,.guard⟩,⟨7,.gcOnly .lateStores⟩],some (2,true)⟩) (v:=?v3True) rfl (by kernel_rfl) (by kernel_rfl) (by kernel_rfl) (fun _ _ _ h=>h) (Or.inl ⟨by rfl,?y3True⟩) (by assumption) ?r3True
    case y3True=>(intro w' hSw;(try dsimp only at hSw);go_simp;all_goals with_reducible rfl)
    try simp only [Act.put,sQ,tQ,vQ]
    refine wpAnyH_take (i:=4) (oi:=⟨some 76,.load 3 (.tmp 75),3, "l10_typing.go:56",#[⟨3,.data⟩,⟨2,.guard⟩,⟨7,.gcOnly .lateStores⟩],some (2,true)⟩) (v:=?v4True) rfl (by kernel_rfl) (by kernel_rfl) (by kernel_rfl) (fun _ _ _ h=>h) (Or.inl ⟨by rfl,?y4True⟩) (by assumption) ?r4True
    case y4True=>(intro w' hSw;(try dsimp only at hSw);go_simp;all_goals with_reducible rfl)
    try simp only [Act.put,sQ,tQ,vQ]
    refine wpAnyH_take (i:=5) (oi:=⟨some 77,.binOp .eql 3 (.tmp 76) (.const (.int .i64 4)) 3,4, "l10_typing.go:56",#[⟨4,.data⟩,⟨2,.guard⟩,⟨7,.gcOnly .lateStores⟩],some (2,true)⟩) (v:=?v5True) rfl (by kernel_rfl) (by kernel_rfl) (by kernel_rfl) (fun _ _ _ h=>h) (Or.inl ⟨by rfl,?y5True⟩) (by assumption) ?r5True
    case y5True=>(intro w' hSw;(try dsimp only at hSw);go_simp;all_goals with_reducible rfl)
    try simp only [Act.put,sQ,tQ,vQ]
    refine wpAnyH_take (i:=6) (oi:=⟨some 78,.pick (.tmp 74) (.tmp 77) (.const (.bool false)),4, "l10_typing.go:56",#[⟨2,.data⟩,⟨5,.data⟩,⟨7,.gcOnly .lateStores⟩],none⟩) (v:=?v6True) rfl (by kernel_rfl) (by kernel_rfl) (by kernel_rfl) (fun _ _ _ h=>h) (Or.inl ⟨by rfl,?y6True⟩) (by assumption) ?r6True
    case y6True=>(intro w' hSw;(try dsimp only at hSw);go_simp;all_goals with_reducible rfl)
    try simp only [Act.put,sQ,tQ,vQ]
    refine wpAnyH_ready (rs:=[7]) (by kernel_rfl) (by simp) ?_;refine AllReadyH.cons (o:=⟨none,.store 38 (.tmp 6) (.tmp 72),0, "l10_typing.go:56",#[⟨0,.data⟩,⟨2,.chain⟩,⟨0,.phase⟩,⟨1,.textOnly .lateStores⟩,⟨2,.textOnly .lateStores⟩,⟨3,.textOnly .lateStores⟩,⟨4,.textOnly .lateStores⟩,⟨5,.textOnly .lateStores⟩,⟨6,.textOnly .lateStores⟩],none⟩) rfl (fun K hK=>?_) AllReadyH.nil;clear hHeld;go_simp;refine hK _ _ ?_ (fun hHeld=>?_)
    ·(try dsimp only);(refine ⟨?_,?_,?_⟩ <;> first | assumption | (simp [World.cell?_setCell_far,hgm];assumption))
    clear hK K
    try simp only [Act.put,sQ,tQ,vQ]
    refine wpAnyH_take (i:=8) (oi:=⟨some 7,.assign (.tmp 78),4, "l10_typing.go:56",#[⟨6,.data⟩,⟨7,.chain⟩,⟨0,.phase⟩,⟨1,.phase⟩,⟨2,.phase⟩,⟨3,.phase⟩,⟨4,.phase⟩,⟨5,.phase⟩,⟨6,.phase⟩,⟨7,.phase⟩],none⟩) (v:=?v8True) rfl (by kernel_rfl) (by kernel_rfl) (by kernel_rfl) (fun _ _ _ h=>h) (Or.inl ⟨by rfl,?y8True⟩) (by assumption) ?r8True
    case y8True=>(intro w' hSw;(try dsimp only at hSw);go_simp;all_goals with_reducible rfl)
    try simp only [Act.put,sQ,tQ,vQ]
    refine wpAnyH_done (by kernel_rfl) ?_ _;refine NoPanic.normal ?_;clear r0 r1 r2 s0 s1 s2;have HMM:Hid (∀ U:World,V.drew.grownBy U (some (H+1+1))->Zau (someT xs c a [t,u]) w (.returned (.tuple #[.agg #[.int .i64 z0,.slice M9 z1 m9,.slice D9 z2 e9],.bool (z0 == 4)])) U):=hQ (fun U hU=>by
     have hm:=HBP.out (z0 == 4) U hU;rw [HN2.out];show Zau (ifAny (isBag u') u') _ _ _;rw [HKQ.out];exact Zen hm)
    have r0:=BRVd.out.c0;have r1:=BRVd.out.c1;have r2:=BRVd.out.c2;have s0:=BRVd.out.free 0;have s1:=BRVd.out.free 1;have s2:=BRVd.out.free 2;go_wp2_with fail;generalize hU:(((V.setCell ⟨H+1+1,0,none⟩ (.int .i64 z0)).setCell ⟨H+1+1,1,none⟩ (.slice M9 z1 m9)).setCell ⟨H+1+1,2,none⟩ (.slice D9 z2 e9)).drew=U;have hgU:V.drew.grownBy U (some (H+1+1)):=by rw [<-hU];exact Zaa (Zaa (Zaa (gQ) _) _) _
    have u1:Box3 U (H+1+1) 38 (.int .i64 z0) (.slice M9 z1 m9) (.slice D9 z2 e9):=by
     rw [<-hU];exact ((BRVd.out.set0 _).set1 _).set2 _
    have HRR:=hQ (HMM.out U hgU);have tt0:=u1.c0;have tt1:=u1.c1;have tt2:=u1.c2;clear hU hgU u1 r0 r1 r2 s0 s1 s2;exact bodyPost_ret (v:=.tuple #[.agg #[.int .i64 z0,.slice M9 z1 m9,.slice D9 z2 e9],.bool (z0 == 4)]) (by simp [results,Tryz.results101,go_sem,tt0,tt1,tt2]) rfl HRR.out
  ·have hqb:(y0 == 4)=false:=by simpa using hq
   have hqn:(y0 != 4)=true:=by simp [bne,hqb]
   have HNN:Hid (someT xs c a [t,u]=none):=hQ (by rw [HN.out];show (if isBag t' then _ else none)=_;rw [if_neg (by unfold isBag;rw [e0];simpa using hq)]);clear e0 e1 e2 hot hfp hP HT2 HWT UP HO HN;have HZZ:Hid (∀ U:World,W.grownBy U (some (H+1+1))->Zau (someT xs c a [t,u]) w (.returned (.tuple #[.agg #[.int .i64 0,.slice none 0 0,.slice none 0 0],.bool false])) U):=hQ (fun U hU=>(fun h=>by rw [HNN.out];exact Zcj h) <| (Zaj (HWB.out.grown hU HWB.out.size (fun k hk=>by injection hk with hk;have:=HH.out;omega))));have r0:=BRW.out.c0;have r1:=BRW.out.c1;have r2:=BRW.out.c2;have s0:=BRW.out.free 0;have s1:=BRW.out.free 1;have s2:=BRW.out.free 2;go_wp2_with fail;generalize hU:((W.setCell ⟨H+1+1,0,none⟩ (.int .i64 0)).setCell ⟨H+1+1,1,none⟩ (.slice none 0 0)).setCell ⟨H+1+1,2,none⟩ (.slice none 0 0)=U;have hgU:W.grownBy U (some (H+1+1)):=by rw [<-hU];exact Zaa (Zaa (Zaa (gQ) _) _) _
   have u1:Box3 U (H+1+1) 38 (.int .i64 0) (.slice none 0 0) (.slice none 0 0):=by
    rw [<-hU];exact ((BRW.out.set0 _).set1 _).set2 _
   have HRR:=hQ (HZZ.out U hgU);have tt0:=u1.c0;have tt1:=u1.c1;have tt2:=u1.c2;clear hU hgU u1 r0 r1 r2 s0 s1 s2 n0 n1 n2;exact bodyPost_ret (v:=.tuple #[.agg #[.int .i64 0,.slice none 0 0,.slice none 0 0],.bool false]) (by simp [results,Tryz.results101,go_sem,tt0,tt1,tt2]) rfl HRR.out
end Go.Proofs.YtlcedleebbgebaaGreatDoor
