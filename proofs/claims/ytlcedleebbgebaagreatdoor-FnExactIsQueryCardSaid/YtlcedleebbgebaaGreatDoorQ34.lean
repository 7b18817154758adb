/-
  Merged by program: TypB, TypS5, TypS6.
-/
import Derived.Test.YtlcedleebbgebaaGreatDoorQ22
set_option maxRecDepth 100000
set_option maxHeartbeats 16000000
set_option linter.all false
namespace Go.Proofs.YtlcedleebbgebaaGreatDoor
open Go.RowKit
def BindR (w:World)(lo:Nat)(o:Option Ty)(P:Nat)(y0:Int)(L:Option Addr)(y1 l:Nat)(A:Option Addr)(y2 d:Nat)(bb:Bool)(W:World):Prop:=
 Below w.heap.size w W/\Box3 W P 38 (.int .i64 y0) (.slice L y1 l) (.slice A y2 d)/\lo<=P/\bb=o.isSome/\
  ∃ t' fp,t'=(optP o).1/\t'.top.kind=y0/\t'.top.labels.length=y1/\t'.kids.length=y2/\OTy W t' [.int .i64 y0,.slice L y1 l,.slice A y2 d] fp/\∀ b∈fp,lo<=b/\b < W.heap.size/\b≠P
theorem Zjc {w W w3:World}{lo:Nat}{o:Option Ty}{e:Ending}(h:MadeP (optP o) W e w3)(hB:Below w.heap.size w W)(hlo:lo<=W.heap.size)(hwl:w.heap.size<=lo) :
  ∃ (y0:Int) (L:Option Addr) (y1 l:Nat) (A:Option Addr) (y2 d:Nat) (bb:Bool),e=.returned (.tuple #[.agg #[.int .i64 y0,.slice L y1 l,.slice A y2 d],.bool bb])/\Below W.heap.size W w3/\
   BindR w lo o w3.heap.size y0 L y1 l A y2 d bb (w3.alloc (.cells #[.int .i64 y0,.slice L y1 l,.slice A y2 d] 38))/\
   ∀ (N:Nat) (z0 z1 z2:Value),lo<=N->Box3 W N 38 z0 z1 z2->Box3 w3 N 38 z0 z1 z2/\BindR w lo o N y0 L y1 l A y2 d bb (((w3.setCell ⟨N,0,none⟩ (.int .i64 y0)).setCell ⟨N,1,none⟩ (.slice L y1 l)).setCell ⟨N,2,none⟩ (.slice A y2 d)):=by
 obtain ⟨L,A,c,d,fp,rfl,hot,hfp,hb3⟩:=h;have hs:=hB.size;have hs3:=hb3.size;have hb:=hB.trans (hb3.mono hs);refine ⟨_,L,_,c,A,_,d,(optP o).2,rfl,hb3,⟨hb.alloc hb.size _,Box3.new w3 _ _ _ _,by omega,rfl,(optP o).1,fp,rfl,rfl,rfl,rfl,hot.under (bQ.alloc nQ _),fun b hm=>?_⟩,fun N z0 z1 z2 hN bx=>?_⟩
 ·have:=hfp b hm
  simp
  omega
 ·have bx3:=bx.under hb3 bx.lt
  have hlt:=bx.lt;have hg:=Zaa (Zaa (Zaa (World.grownBy.refl w3 (some N)) (j:=0) (.int .i64 (optP o).1.top.kind)) (j:=1) (.slice L (optP o).1.top.labels.length c)) (j:=2) (.slice A (optP o).1.kids.length d);have hsg:=hg.size;refine ⟨bx3,hb.grown hg hb.size (fun k hk=>by injection hk with hk;omega),((bx3.set0 _).set1 _).set2 _,hN,rfl,(optP o).1,fp,rfl,rfl,rfl,rfl,hot.keep hg (fun b hm e=>by injection e with e;have:=(hfp b hm).1;omega),fun b hm=>?_⟩
  have:=hfp b hm
  omega
def Zrx (f:Nat->Int->Option Addr->Nat->Nat->Option Addr->Nat->Nat->Bool->Option Addr->Nat->Act)(R:Nat->Int->Option Addr->Nat->Nat->Option Addr->Nat->Nat->Bool->Option Addr->Nat->World->Prop):Exit->Act->World->Prop
 | .normal,a,w=>∃ (P:Nat) (y0:Int) (L:Option Addr) (y1 l:Nat) (A:Option Addr) (y2 d:Nat) (bb:Bool) (B:Option Addr) (bd:Nat),a=f P y0 L y1 l A y2 d bb B bd/\R P y0 L y1 l A y2 d bb B bd w
 | _,_,_=>False
theorem Zbc {f:Nat->Int->Option Addr->Nat->Nat->Option Addr->Nat->Nat->Bool->Option Addr->Nat->Act}{R:Nat->Int->Option Addr->Nat->Nat->Option Addr->Nat->Nat->Bool->Option Addr->Nat->World->Prop}{w:World}(P:Nat)(y0:Int)(L:Option Addr)(y1 l:Nat)(A:Option Addr)(y2 d:Nat)(bb:Bool)(B:Option Addr)(bd:Nat)
  (h:R P y0 L y1 l A y2 d bb B bd w):Zrx f R .normal (f P y0 L y1 l A y2 d bb B bd) w:=⟨P,y0,L,y1,l,A,y2,d,bb,B,bd,rfl,h⟩
theorem Zjd {c:Code}{Q:Exit->Act->World->Prop}{a:Act}{w:World}(f:Nat->Int->Option Addr->Nat->Nat->Option Addr->Nat->Nat->Bool->Option Addr->Nat->Act)(R:Nat->Int->Option Addr->Nat->Nat->Option Addr->Nat->Nat->Bool->Option Addr->Nat->World->Prop)
  (hq:∀ (P:Nat) (y0:Int) (L:Option Addr) (y1 l:Nat) (A:Option Addr) (y2 d:Nat) (bb:Bool) (B:Option Addr) (bd:Nat) (w':World),R P y0 L y1 l A y2 d bb B bd w'->Q .normal (f P y0 L y1 l A y2 d bb B bd) w') (h:c.wp Tryz.prog (Zrx f R) a w):c.wp Tryz.prog Q a w:=
 Code.wp_mono (fun e a' w' h=>by
  cases e with
  | normal=>
   obtain ⟨P,y0,L,y1,l,A,y2,d,bb,B,bd,h2,h3⟩:=h;subst h2;exact hq P y0 L y1 l A y2 d bb B bd w' h3
  | _=>exact False.elim h) h
theorem Ztr (xs:Sc)(a:TeA)(ks:List Te)(A:Option Addr)(n d:Nat)(w:World)(ss cs:List Value)(o:Option Ty)(hs:RSc w xs ss)(h:RTe w (.node a ks) cs)(hwo:∀ t,o=some t->wt t<=1048576)
  (HS:∀ W,Below w.heap.size w W->Calls Tryz.prog 68 #[.agg ss.toArray,.slice A n d,.agg cs.toArray] W (Zau o W)):Calls Tryz.prog 32 #[.agg ss.toArray,.slice A n d,.agg cs.toArray] w (MadeP (optP (okT o)) w):=by
 obtain ⟨SA,sd,rfl,hsl,hsd,hsp⟩:=hs.open;obtain ⟨TL,tc,TA,td,LE,lc0,KA,kd,rfl,hT,hLb,hok,_,_,hkp⟩:=h.out;obtain ⟨W1,hW1⟩:∃ W1,((w.alloc (.cells #[.slice SA xs.length sd] 43)).alloc (.cells #[.int .i64 a.kind,.string a.name,.int .i64 a.num,.int .i64 a.type.top.kind,.slice TL a.type.top.labels.length tc,.slice TA a.type.kids.length td,.slice LE a.labels.length lc0,.slice KA ks.length kd] 49)).alloc (.cells #[.int .i64 0,.slice none 0 0,.slice none 0 0] 38)=W1:=⟨_,rfl⟩;obtain ⟨H,hH⟩:∃ H,w.heap.size=H:=⟨_,rfl⟩;have bs:Box1 W1 H 43 (.slice SA xs.length sd):=by rw [<-hW1,<-hH];exact ((Box1.new w _ _).alloc _).alloc _
 have bt:Box8 W1 (H+1) 49 (.int .i64 a.kind) (.string a.name) (.int .i64 a.num) (.int .i64 a.type.top.kind) (.slice TL a.type.top.labels.length tc) (.slice TA a.type.kids.length td) (.slice LE a.labels.length lc0) (.slice KA ks.length kd):=by
  rw [<-hW1,<-hH]
  have:=(Box8.new (w.alloc (.cells #[.slice SA xs.length sd] 43)) 49 (.int .i64 a.kind) (.string a.name) (.int .i64 a.num) (.int .i64 a.type.top.kind) (.slice TL a.type.top.labels.length tc) (.slice TA a.type.kids.length td) (.slice LE a.labels.length lc0) (.slice KA ks.length kd)).alloc (.cells #[.int .i64 0,.slice none 0 0,.slice none 0 0] 38)
  simpa using this
 have br:Box3 W1 (H+1+1) 38 (.int .i64 0) (.slice none 0 0) (.slice none 0 0):=by
  rw [<-hW1,<-hH]
  have:=Box3.new ((w.alloc (.cells #[.slice SA xs.length sd] 43)).alloc (.cells #[.int .i64 a.kind,.string a.name,.int .i64 a.num,.int .i64 a.type.top.kind,.slice TL a.type.top.labels.length tc,.slice TA a.type.kids.length td,.slice LE a.labels.length lc0,.slice KA ks.length kd] 49)) 38 (.int .i64 0) (.slice none 0 0) (.slice none 0 0)
  simpa using this
 have hb1:Below w.heap.size w W1:=by rw [<-hW1];exact ((bQ.alloc nQ _).alloc (by simp) _).alloc (by simp;omega) _
 have hs1:W1.heap.size=H+3:=by rw [<-hW1,<-hH];simp
 have HB1:=hQ hb1;have HS1:=hQ hs1;have HH:=hQ hH;have HW1:=hQ hW1;have BR:=hQ br;have HC:=hQ (HS W1 hb1);have HWO:=hQ hwo;have x0:=bt.c0;have x1:=bt.c1;have x2:=bt.c2;have x3:=bt.c3;have x4:=bt.c4;have x5:=bt.c5;have x6:=bt.c6;have x7:=bt.c7;have z0:=bs.c0;clear hs h hsp hT hLb hok hkp hW1 bs bt br hb1 hs1 hsl hsd HS hwo;go_enter Tryz.func32,Tryz.ntmps32;go_wp2_with fail;rw [HW1.out];go_wp2_with fail;refine HC.out.mono ?_;rintro e w3 ⟨t',ht',LL,AA,lc,dd,fp3,rfl,ho3,hf3,hb3⟩;have hs3:=hb3.size;have HBX:=hQ (BR.out.under hb3 BR.out.lt);have HB3:=hQ (HB1.out.trans (hb3.mono HB1.out.size));have HO3:=hQ ho3;have HF3:Hid (∀ b∈fp3,W1.heap.size<=b/\b < w3.heap.size):=hQ hf3;have HR3:=hQ (OTy.reads ho3);have HT':=hQ ht';have HS3:=hQ hs3;clear ho3 hf3 hb3 hs3 ht' x0 x1 x2 x3 x4 x5 x6 x7 z0 HC;cases o with
 | none=>
  have HBA:=hQ (HBX.out.alloc (.cells #[.int .i64 t'.top.kind,.slice LL t'.top.labels.length lc,.slice AA t'.kids.length dd] 38));have HBW:=hQ (HB3.out.alloc HB3.out.size (.cells #[.int .i64 t'.top.kind,.slice LL t'.top.labels.length lc,.slice AA t'.kids.length dd] 38));generalize t'.top.kind=y0 at *
  generalize t'.top.labels.length=y1 at *
  generalize t'.kids.length=y2 at *
  have e0:(none:Option Ty).isSome=false:=rfl;rw [e0];have HZZ:Hid (∀ U:World,(w3.alloc (.cells #[.int .i64 y0,.slice LL y1 lc,.slice AA y2 dd] 38)).grownBy U (some (H+1+1))->MadeP (optP (okT none)) w (.returned (.tuple #[.agg #[.int .i64 0,.slice none 0 0,.slice none 0 0],.bool false])) U):=hQ (fun U hU=> (Zaj (HBW.out.grown hU HBW.out.size (fun k hk=>by injection hk with hk;have:=HH.out;omega))));have r0:=HBA.out.c0;have r1:=HBA.out.c1;have r2:=HBA.out.c2;have s0:=HBA.out.free 0;have s1:=HBA.out.free 1;have s2:=HBA.out.free 2;go_wp2_with fail;generalize hU:(((w3.alloc (.cells #[.int .i64 y0,.slice LL y1 lc,.slice AA y2 dd] 38)).setCell ⟨H+1+1,0,none⟩ (.int .i64 0)).setCell ⟨H+1+1,1,none⟩ (.slice none 0 0)).setCell ⟨H+1+1,2,none⟩ (.slice none 0 0)=U;have hgU:(w3.alloc (.cells #[.int .i64 y0,.slice LL y1 lc,.slice AA y2 dd] 38)).grownBy U (some (H+1+1)):=by rw [<-hU];exact Zaa (Zaa (Zaa (gQ) _) _) _
  have u1:Box3 U (H+1+1) 38 (.int .i64 0) (.slice none 0 0) (.slice none 0 0):=by
   rw [<-hU];exact ((HBA.out.set0 _).set1 _).set2 _
  have HRR:=hQ (HZZ.out U hgU);have tt0:=u1.c0;have tt1:=u1.c1;have tt2:=u1.c2;clear hU hgU u1 r0 r1 r2 s0 s1 s2;exact bodyPost_ret (v:=.tuple #[.agg #[.int .i64 0,.slice none 0 0,.slice none 0 0],.bool false]) (by simp [results,Tryz.results32,go_sem,tt0,tt1,tt2]) rfl HRR.out
 | some t=>
  obtain rfl:=HT'.out t rfl;have e0:(some t').isSome=true:=rfl;rw [e0];have hal:Below w3.heap.size w3 (w3.alloc (.cells #[.int .i64 t'.top.kind,.slice LL t'.top.labels.length lc,.slice AA t'.kids.length dd] 38)):=bQ.alloc nQ _;have HVA:=hQ (Zcf t' _ _ (HR3.out.keep hal) (HWO.out t' rfl));have HOV:=hQ (HO3.out.under hal);have bn:=Box3.new w3 38 (.int .i64 t'.top.kind) (.slice LL t'.top.labels.length lc) (.slice AA t'.kids.length dd);have HBN:=hQ bn;have HBA:=hQ (HBX.out.under hal HBX.out.lt);have HBW:=hQ (HB3.out.trans (hal.mono HB3.out.size));have n0:=bn.c0;have n1:=bn.c1;have n2:=bn.c2;clear hal bn;obtain ⟨v,hv⟩:∃ v,Zae t'=v:=⟨_,rfl⟩;rw [hv] at HVA;have HVV:=hQ hv;clear hv;go_wp2_with fail;refine HVA.out.mono ?_;rintro e w5 ⟨rfl,hb5⟩;have hs5:=hb5.size;have HB5:=hQ (HBW.out.trans (hb5.mono HBW.out.size));have BR5:=hQ (HBA.out.under hb5 HBA.out.lt);have BN5:=hQ (HBN.out.under hb5 HBN.out.lt);have HO5:=hQ (HOV.out.under hb5);have HF5:Hid (∀ b∈fp3,w.heap.size<=b/\b < w5.heap.size/\b≠H+1+1):=hQ (fun b hb=>by
   have h1:=HF3.out b hb;have h2:=HS1.out;have h3:=HH.out;have h4:=HB1.out.size;have h6:w3.heap.size<=w5.heap.size:=Nat.le_trans (by simp) hs5
   omega)
  clear hb5 hs5 n0 n1 n2;cases v
  ·have HP:Hid (optP (okT (some t'))=(Zap,false)):=hQ (by unfold okT ifAny;simp [HVV.out];rfl)
   have HZZ:Hid (∀ U:World,w5.grownBy U (some (H+1+1))->MadeP (optP (okT (some t'))) w (.returned (.tuple #[.agg #[.int .i64 0,.slice none 0 0,.slice none 0 0],.bool false])) U):=hQ (fun U hU=>HP.out ▸ (Zaj (HB5.out.grown hU HB5.out.size (fun k hk=>by injection hk with hk;have:=HH.out;omega))));have r0:=BR5.out.c0;have r1:=BR5.out.c1;have r2:=BR5.out.c2;have s0:=BR5.out.free 0;have s1:=BR5.out.free 1;have s2:=BR5.out.free 2;go_wp2_with fail;generalize hU:((w5.setCell ⟨H+1+1,0,none⟩ (.int .i64 0)).setCell ⟨H+1+1,1,none⟩ (.slice none 0 0)).setCell ⟨H+1+1,2,none⟩ (.slice none 0 0)=U;have hgU:w5.grownBy U (some (H+1+1)):=by rw [<-hU];exact Zaa (Zaa (Zaa (gQ) _) _) _
   have u1:Box3 U (H+1+1) 38 (.int .i64 0) (.slice none 0 0) (.slice none 0 0):=by
    rw [<-hU];exact ((BR5.out.set0 _).set1 _).set2 _
   have HRR:=hQ (HZZ.out U hgU);have tt0:=u1.c0;have tt1:=u1.c1;have tt2:=u1.c2;clear hU hgU u1 r0 r1 r2 s0 s1 s2;exact bodyPost_ret (v:=.tuple #[.agg #[.int .i64 0,.slice none 0 0,.slice none 0 0],.bool false]) (by simp [results,Tryz.results32,go_sem,tt0,tt1,tt2]) rfl HRR.out
  ·have HP:Hid (optP (okT (some t'))=(t',true)):=hQ (by unfold okT ifAny;simp [HVV.out];rfl)
   have HM2:Hid (∀ U:World,w5.grownBy U (some (H+1+1))->MadeP (optP (okT (some t'))) w (.returned (.tuple #[.agg #[.int .i64 t'.top.kind,.slice LL t'.top.labels.length lc,.slice AA t'.kids.length dd],.bool true])) U):=hQ (fun U hU=>by
    rw [HP.out];have hsU:=hU.size;refine ⟨LL,AA,lc,dd,fp3,rfl,HO5.out.keep hU (fun b hm e=>by injection e with e;exact (HF5.out b hm).2.2 e),fun b hm=>?_,HB5.out.grown hU HB5.out.size (fun k hk=>by injection hk with hk;have:=HH.out;omega)⟩
    have:=HF5.out b hm
    omega)
   have r0:=BR5.out.c0;have r1:=BR5.out.c1;have r2:=BR5.out.c2;have s0:=BR5.out.free 0;have s1:=BR5.out.free 1;have s2:=BR5.out.free 2;have n0:=BN5.out.c0;have n1:=BN5.out.c1;have n2:=BN5.out.c2;generalize t'.top.kind=y0 at *
   generalize t'.top.labels.length=y1 at *
   generalize t'.kids.length=y2 at *
   go_wp2_with fail
   generalize hU:((w5.setCell ⟨H+1+1,0,none⟩ (.int .i64 y0)).setCell ⟨H+1+1,1,none⟩ (.slice LL y1 lc)).setCell ⟨H+1+1,2,none⟩ (.slice AA y2 dd)=U;have hgU:w5.grownBy U (some (H+1+1)):=by rw [<-hU];exact Zaa (Zaa (Zaa (gQ) _) _) _
   have u1:Box3 U (H+1+1) 38 (.int .i64 y0) (.slice LL y1 lc) (.slice AA y2 dd):=by
    rw [<-hU];exact ((BR5.out.set0 _).set1 _).set2 _
   have HRR:=hQ (HM2.out U hgU);have tt0:=u1.c0;have tt1:=u1.c1;have tt2:=u1.c2;clear hU hgU u1 r0 r1 r2 s0 s1 s2 n0 n1 n2;exact bodyPost_ret (v:=.tuple #[.agg #[.int .i64 y0,.slice LL y1 lc,.slice AA y2 dd],.bool true]) (by simp [results,Tryz.results32,go_sem,tt0,tt1,tt2]) rfl HRR.out
def TypK (xs:Sc)(t:Te):Prop:=∀ (w:World)(c:Cx)(A:Option Addr)(d:Nat)(ss cs:List Value),RSc w xs ss->RL kTg w A c->RTe w t cs->c.length+t.size<=1000->(∀ x∈c,wt x.2<=1048576)->t.formE=true->wte t<=1048576->
 Calls Tryz.prog 32 #[.agg ss.toArray,.slice A c.length d,.agg cs.toArray] w (MadeP (optP (Tr.typ xs t c)) w)
noncomputable def someT (xs:Sc)(c:Cx)(a:TeA)(ks:List Te):Option Ty:=(Zan a c (ks.map (Tr.typ xs)) []).bind (Zac xs c a)
theorem Zabq (xs:Sc)(a:TeA)(ks:List Te)(c:Cx):Tr.typ xs (.node a ks) c=okT (someT xs c a ks):=by
 rw [Zjh];unfold someT;cases Zan a c (ks.map (Tr.typ xs)) [] <;> rfl
theorem Zabi {xs:Sc}{c:Cx}{a:TeA}{t:Te}(hk:a.kind=13):someT xs c a [t]=(Tr.typ xs t (c ++ [(a.name,a.type)])).map (tyFun a.type):=by
 unfold someT;rw [List.map_cons,List.map_nil,Zan,Zon hk];simp only;cases Tr.typ xs t (c ++ [(a.name,a.type)]) with
 | none=>rfl
 | some u=>
  show (Zan a c [] [u]).bind _=some (tyFun a.type u)
  rw [Zan]
  show Zac xs c a [u]=_
  unfold Zac;(iterate 12 rw [if_neg (by rw [hk];decide)]);rw [if_pos hk]
  rfl
theorem Zacq (xs:Sc)(c:Cx)(a:TeA)(t:Te)(A:Option Addr)(d:Nat)(w:World)(ss cs:List Value)(hs:RSc w xs ss)(hc:RL kTg w A c)(h:RTe w (.node a [t]) cs)(hk:a.kind=13)(IH:TypK xs t)(hsz:c.length+1+t.size<=1000)(hcw:∀ x∈c,wt x.2<=1048576)(hf:t.formE=true)(hwt:wte t<=1048576)(hwa:wt a.type<=1048576) :
  Calls Tryz.prog 101 #[.agg ss.toArray,.slice A c.length d,.agg cs.toArray] w (Zau (someT xs c a [t]) w):=by
 obtain ⟨SA,sd,rfl,hsl,hsd,hsp⟩:=hs.open;obtain ⟨TL,tc,TA,td,LE,lc0,KA,kd,rfl,hT,hLb,hok,_,_,hkp⟩:=h.out;obtain ⟨W1,hW1⟩:∃ W1,((w.alloc (.cells #[.slice SA xs.length sd] 43)).alloc (.cells #[.int .i64 a.kind,.string a.name,.int .i64 a.num,.int .i64 a.type.top.kind,.slice TL a.type.top.labels.length tc,.slice TA a.type.kids.length td,.slice LE a.labels.length lc0,.slice KA 1 kd] 49)).alloc (.cells #[.int .i64 0,.slice none 0 0,.slice none 0 0] 38)=W1:=⟨_,rfl⟩;obtain ⟨H,hH⟩:∃ H,w.heap.size=H:=⟨_,rfl⟩;have bs:Box1 W1 H 43 (.slice SA xs.length sd):=by rw [<-hW1,<-hH];exact ((Box1.new w _ _).alloc _).alloc _
 have bt:Box8 W1 (H+1) 49 (.int .i64 a.kind) (.string a.name) (.int .i64 a.num) (.int .i64 a.type.top.kind) (.slice TL a.type.top.labels.length tc) (.slice TA a.type.kids.length td) (.slice LE a.labels.length lc0) (.slice KA 1 kd):=by
  rw [<-hW1,<-hH]
  have:=(Box8.new (w.alloc (.cells #[.slice SA xs.length sd] 43)) 49 (.int .i64 a.kind) (.string a.name) (.int .i64 a.num) (.int .i64 a.type.top.kind) (.slice TL a.type.top.labels.length tc) (.slice TA a.type.kids.length td) (.slice LE a.labels.length lc0) (.slice KA 1 kd)).alloc (.cells #[.int .i64 0,.slice none 0 0,.slice none 0 0] 38)
  simpa using this
 have br:Box3 W1 (H+1+1) 38 (.int .i64 0) (.slice none 0 0) (.slice none 0 0):=by
  rw [<-hW1,<-hH]
  have:=Box3.new ((w.alloc (.cells #[.slice SA xs.length sd] 43)).alloc (.cells #[.int .i64 a.kind,.string a.name,.int .i64 a.num,.int .i64 a.type.top.kind,.slice TL a.type.top.labels.length tc,.slice TA a.type.kids.length td,.slice LE a.labels.length lc0,.slice KA 1 kd] 49)) 38 (.int .i64 0) (.slice none 0 0) (.slice none 0 0)
  simpa using this
 have hb1:Below w.heap.size w W1:=by rw [<-hW1];exact ((bQ.alloc nQ _).alloc (by simp) _).alloc (by simp;omega) _
 have hs1:W1.heap.size=H+3:=by rw [<-hW1,<-hH];simp
 have HB1:=hQ hb1;have HS1:=hQ hs1;have HH:=hQ hH;have HW1:=hQ hW1;have BR:=hQ br;have hks:([t]:List Te).length=1:=rfl;obtain ⟨ad,p,k0,k1,k2,k3,k4,k5,k6,k7,rfl,hpe,hkt,q0,q1,q2,q3,q4,q5,q6,q7⟩:=Zfj (hkp.keep hb1) bQ (k:=0) (by simp);have hpe:ad=p:=by rw [<-hpe];rfl
 subst hpe;have hcl:c.length<=1048576:=by omega
 have HWT:=hQ (fun (W:World) (hB:Below w.heap.size w W)=>Zjz A d c a.name a.type a.type.top.kind TL TA a.type.top.labels.length tc a.type.kids.length td W (hc.keep hB) hcl hok.2.2.1 (hT.keep hB));have HCW2:∀ x∈c ++ [(a.name,a.type)],wt x.2<=1048576:=fun x hx=>by
  rcases List.mem_append.1 hx with hx|hx
  ·exact hcw x hx
  ·simp at hx;subst hx;exact hwa
 have hlen1:(c ++ [(a.name,a.type)]).length=c.length+1:=by simp
 have HTY:Hid (∀ (W:World) (B:Option Addr) (bd:Nat) (_:Below W1.heap.size W1 W) (_:Below w.heap.size w W) (_:RL kTg W B (c ++ [(a.name,a.type)])),Calls Tryz.prog 32 #[.agg #[.slice SA xs.length sd],.slice B (c.length+1) bd,.agg #[k0,k1,k2,k3,k4,k5,k6,k7]] W (MadeP (optP (Tr.typ xs t (c ++ [(a.name,a.type)]))) W)):=hQ (fun W B bd hB hB0 hp=>by
  have hh:=IH W (c ++ [(a.name,a.type)]) B bd _ [k0,k1,k2,k3,k4,k5,k6,k7] (hs.keep hB0) hp (hkt.keep hB) (by simp;omega) HCW2 hf hwt;rw [hlen1] at hh;exact hh)
 clear HCW2 hlen1;have HFT:=hQ (fun (W:World) (hB:Below w.heap.size w W)=>hT.keep hB);have x0:=bt.c0;have x1:=bt.c1;have x3:=bt.c3;have x4:=bt.c4;have x5:=bt.c5;have x7:=bt.c7;have zs:=bs.c0;rw [hks] at *
 rw [hk] at HW1 x0 ⊢;have UP:Hid (∀ W,Below W1.heap.size W1 W->W.cell? ⟨H,0,none⟩=some (.slice SA xs.length sd)/\W.cell? ⟨H+1,1,none⟩=some (.string a.name)/\W.cell? ⟨H+1,3,none⟩=some (.int .i64 a.type.top.kind)/\W.cell? ⟨H+1,4,none⟩=some (.slice TL a.type.top.labels.length tc)/\W.cell? ⟨H+1,5,none⟩=some (.slice TA a.type.kids.length td)/\W.cell? ⟨H+1,7,none⟩=some (.slice (some ad) 1 kd)/\W.cell? ad=some k0/\W.cell? ⟨ad.block,ad.off+1,none⟩=some k1/\W.cell? ⟨ad.block,ad.off+2,none⟩=some k2/\W.cell? ⟨ad.block,ad.off+3,none⟩=some k3/\W.cell? ⟨ad.block,ad.off+4,none⟩=some k4/\W.cell? ⟨ad.block,ad.off+5,none⟩=some k5/\W.cell? ⟨ad.block,ad.off+6,none⟩=some k6/\W.cell? ⟨ad.block,ad.off+7,none⟩=some k7):=hQ (fun W hB=>⟨uQ hB zs,uQ hB x1,uQ hB x3,uQ hB x4,uQ hB x5,uQ hB x7,uQ hB q0,uQ hB q1,uQ hB q2,uQ hB q3,uQ hB q4,uQ hB q5,uQ hB q6,uQ hB q7⟩);have HN:=hQ (Zabi (xs:=xs) (c:=c) (t:=t) hk);have HWA:=hQ hwa;clear hk hs hc h hsp hT hLb hok hkp hW1 bt bs br hb1 hs1 hkt IH hcw hf hwt hwa hsl hsd hks hsz;go_enter Tryz.func101,Tryz.ntmps101;go_wp2_with fail;rw [HW1.out];go_wp2_with fail;obtain ⟨o,ho⟩:∃ o,Tr.typ xs t (c ++ [(a.name,a.type)])=o:=⟨_,rfl⟩;rw [ho] at HTY HN;have HO:=hQ ho;clear ho;clear x0 x1 x3 x4 x5 x7 zs q0 q1 q2 q3 q4 q5 q6 q7;obtain ⟨WZ,hWZ⟩:∃ WZ,W1.heap.size=WZ:=⟨_,rfl⟩;have HWZ:=hQ hWZ;clear hWZ;apply Zjd (R:=fun P y0 L9 y1 l9 A9 y2 d9 bb B bd W=>BindR W1 WZ o P y0 L9 y1 l9 A9 y2 d9 bb W)
 rotate_left 1
 ·have hq0:Below W1.heap.size W1 W1.drew:=bQ.drew
  have UPo:=UP.out;go_region_held3 (fun W=>W.cell? ⟨H,0,none⟩=some (.slice SA xs.length sd)/\W.cell? ⟨H+1,1,none⟩=some (.string a.name)/\W.cell? ⟨H+1,3,none⟩=some (.int .i64 a.type.top.kind)/\W.cell? ⟨H+1,4,none⟩=some (.slice TL a.type.top.labels.length tc)/\W.cell? ⟨H+1,5,none⟩=some (.slice TA a.type.kids.length td)/\W.cell? ⟨H+1,7,none⟩=some (.slice (some ad) 1 kd)/\W.cell? ad=some k0/\W.cell? ⟨ad.block,ad.off+1,none⟩=some k1/\W.cell? ⟨ad.block,ad.off+2,none⟩=some k2/\W.cell? ⟨ad.block,ad.off+3,none⟩=some k3/\W.cell? ⟨ad.block,ad.off+4,none⟩=some k4/\W.cell? ⟨ad.block,ad.off+5,none⟩=some k5/\W.cell? ⟨ad.block,ad.off+6,none⟩=some k6/\W.cell? ⟨ad.block,ad.off+7,none⟩=some k7)
   (first | exact UPo _ hq0 | exact UPo _ (by assumption) | exact UPo _ (Below.alloc (by assumption) (Below.size (by assumption)) _) | go_keep)
   (first
    | (go_at_call 124;refine (HWT.out _ (HB1.out.trans (Below.mono (by first | exact hq0 | exact hq0.alloc hq0.size _) HB1.out.size))).mono ?_;rintro e w2 ⟨B,bd,rfl,hbd,hp2,hb2⟩;have hq1:Below W1.heap.size W1 w2:=(by first | exact hq0.trans (hb2.mono hq0.size) | exact (hq0.alloc hq0.size _).trans (hb2.mono (hq0.alloc hq0.size _).size));have hq1a:Below W1.heap.size W1 (w2.alloc (.cells #[.int .i64 0,.slice none 0 0,.slice none 0 0] 38)):=hq1.alloc hq1.size _;(try have bx0:Box3 w2 W1.heap.size 38 (.int .i64 0) (.slice none 0 0) (.slice none 0 0):=(Box3.new W1.drew 38 _ _ _).under hb2 (by simp));clear hbd hb2)
    | (go_at_call 32;refine (HTY.out _ B bd (by first | exact hq1 | exact hq1a) (HB1.out.trans (Below.mono (by first | exact hq1 | exact hq1a) HB1.out.size)) (by first | exact hp2 | exact hp2.keep (bQ.alloc nQ _))).mono ?_;rintro e w3 hm;obtain ⟨y0,L9,y1,l9,A9,y2,d9,bb,rfl,hb3,hc3,hN3⟩:=Zjc (w:=W1) (lo:=W1.heap.size) hm (by first | exact hq1 | exact hq1a) (by first | exact hq1.size | exact hq1a.size) nQ;have hq2:Below W1.heap.size W1 w3:=(by first | exact hq1.trans (hb3.mono hq1.size) | exact hq1a.trans (hb3.mono hq1a.size));have hq2a:=hc3.1;(try have hN:=hN3 W1.heap.size _ _ _ nQ bx0);(try have hN:=hN3 w2.heap.size _ _ _ hq1.size (Box3.new w2 38 _ _ _));(try have hq3:=hN.2.1);(try have n0:=hN.1.c0);(try have n1:=hN.1.c1);(try have n2:=hN.1.c2);(try have g0:=hN.1.free 0);(try have g1:=hN.1.free 1);(try have g2:=hN.1.free 2);clear hm hb3 hN3))
  all_goals first | refine NoPanic.normal ?_ | skip
  all_goals rw [HWZ.out] at *
  all_goals first
   | (obtain ⟨P,hP⟩:∃ P,w2.heap.size=P:=⟨_,rfl⟩;have hh:=hN.2;rw [hP] at hh ⊢;exact Zbc P y0 L9 y1 l9 A9 y2 d9 bb B bd hh)
   | (obtain ⟨P,hP⟩:∃ P,WZ=P:=⟨_,rfl⟩;have hh:=hN.2;rw [hP] at hh ⊢;exact Zbc P y0 L9 y1 l9 A9 y2 d9 bb B bd hh)
   | (obtain ⟨P,hP⟩:∃ P,w3.heap.size=P:=⟨_,rfl⟩;have hh:=hc3;rw [hP] at hh ⊢;exact Zbc P y0 L9 y1 l9 A9 y2 d9 bb B bd hh)
 rintro P y0 L9 y1 l9 A9 y2 d9 bb B bd W ⟨hbW,bxP,hP,hbb,t',fp,ht',e0,e1,e2,hot,hfp⟩;rw [<-HWZ.out] at hP;obtain ⟨_,_,v0,v1,v2,_⟩:=UP.out W hbW;have n0:=bxP.c0;have n1:=bxP.c1;have n2:=bxP.c2;have HWB:=hQ (HB1.out.trans (hbW.mono HB1.out.size));have BRW:=hQ (BR.out.under hbW BR.out.lt);have HSW:Hid (H+1+1 < W.heap.size):=hQ (by have:=hbW.size;have:=HS1.out;omega);have hwt':wt t'<=1048576:=by
  rw [ht'];cases o with
  | none=>show wt Zap<=1048576;simp [Zap,wt,Tr.sum,wtA,total]
  | some u=>exact Nat.le_trans (Zbq (Zfy HO.out)) (by decide)
 have HC:=hQ (show Calls Tryz.prog _ #[.agg #[.int .i64 a.type.top.kind,.slice TL a.type.top.labels.length tc,.slice TA a.type.kids.length td],.agg #[.int .i64 y0,.slice L9 y1 l9,.slice A9 y2 d9]] W (MadeT (tyFun a.type t') W) from Zwz a.type t' W _ _ (HFT.out W HWB.out) (OTy.reads hot) HWA.out hwt');have HPP:Hid (∀ (e:Ending) (U:World),MadeP (tyFun a.type t',bb) w e U->Zau (someT xs c a [t]) w e U):=hQ (fun e U hm=>by
  rw [HN.out];rw [ht',hbb] at hm;cases o with
  | none=>exact Zcj hm
  | some u=>exact Zck hm)
 clear hbW bxP hP hbb ht' e0 e1 e2 hot hfp hwt' HTY HWT UP HN HO HFT HWA HWZ;go_wp2_with fail;refine HC.out.mono ?_;rintro e w3 hmade;have hb3:Below W.heap.size W w3:=by
  obtain ⟨_,_,_,_,_,_,_,_,hb3⟩:=hmade;exact hb3
 have HBX:=hQ (BRW.out.under hb3 BRW.out.lt);have HM:=hQ (fun (U:World) (hU:w3.grownBy U (some (H+1+1)))=>Zcz (b:=bb) (w:=w) (U:=U) hmade HWB.out (HSW.out) (by have:=HH.out;omega) hU);obtain ⟨LL,AA,lc,dd,rfl,_⟩:=HM.out w3 (gQ);have HM2:Hid (∀ U:World,w3.grownBy U (some (H+1+1))->Zau (someT xs c a [t]) w (.returned (.tuple #[.agg #[.int .i64 (tyFun a.type t').top.kind,.slice LL (tyFun a.type t').top.labels.length lc,.slice AA (tyFun a.type t').kids.length dd],.bool bb])) U):=hQ (by
  intro U hU
  obtain ⟨L9,A9,c9,d9,e9,h9⟩:=HM.out U hU;injection e9 with e9
  rw [<-e9] at h9;exact HPP.out _ _ h9)
 have r0:=HBX.out.c0;have r1:=HBX.out.c1;have r2:=HBX.out.c2;have s0:=HBX.out.free 0;have s1:=HBX.out.free 1;have s2:=HBX.out.free 2;generalize (tyFun a.type t').top.kind=y0 at HM2 ⊢;generalize (tyFun a.type t').top.labels.length=y1 at HM2 ⊢;generalize (tyFun a.type t').kids.length=y2 at HM2 ⊢;clear hmade hb3 HM n0 n1 n2 v0 v1 v2;go_wp2_with fail;generalize hU:((w3.setCell ⟨H+1+1,0,none⟩ (.int .i64 y0)).setCell ⟨H+1+1,1,none⟩ (.slice LL y1 lc)).setCell ⟨H+1+1,2,none⟩ (.slice AA y2 dd)=U;have hgU:w3.grownBy U (some (H+1+1)):=by rw [<-hU];exact Zaa (Zaa (Zaa (gQ) _) _) _
 have u1:Box3 U (H+1+1) 38 (.int .i64 y0) (.slice LL y1 lc) (.slice AA y2 dd):=by
  rw [<-hU];exact ((HBX.out.set0 _).set1 _).set2 _
 have HRR:=hQ (HM2.out U hgU);have tt0:=u1.c0;have tt1:=u1.c1;have tt2:=u1.c2;clear hU hgU u1 r0 r1 r2 s0 s1 s2;exact bodyPost_ret (v:=.tuple #[.agg #[.int .i64 y0,.slice LL y1 lc,.slice AA y2 dd],.bool bb]) (by simp [results,Tryz.results101,go_sem,tt0,tt1,tt2]) rfl HRR.out
end Go.Proofs.YtlcedleebbgebaaGreatDoor
