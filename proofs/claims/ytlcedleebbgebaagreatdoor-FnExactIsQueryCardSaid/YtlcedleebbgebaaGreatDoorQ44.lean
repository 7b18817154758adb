/-
  Merged by program: CtxS, TyData, TypSA, TypSB, ErrI, TnB, TeW, ArI.
-/
import Derived.Test.YtlcedleebbgebaaGreatDoorQ41
import Derived.LaidEql
import Derived.Stop.Asserts
import Derived.RowKitTokens
set_option maxRecDepth 100000
set_option maxHeartbeats 4000000
set_option linter.all false
namespace Go.Proofs.YtlcedleebbgebaaGreatDoor
open Go.RowKit
theorem Zqu (t:Cx)(w:World)(A:Option Addr)(d:Nat)(hp:RL kTg w A t)(hw:wL wTg t<=1048576):Calls Tryz.prog 30 #[.slice A t.length d] w (Truth (ctxB t) w):=by
 have hlen:t.length<=1048576:=by unfold wL at hw;omega
 have HP:=hQ hp;have HW:=hQ hw;have HD:Hid (ctxB t=(decide (t.length<=16) && t.all tgB)):=hQ rfl;clear hp hw;generalize ctxB t=cb at HD ⊢;go_enter Tryz.func30,Tryz.ntmps30;go_wp2_with fail;go_loopw [3] (fun i wr=>∃ k:Nat,k<=t.length/\i=.int .i64 k/\(t.take k).all tgB=true/\Below w.heap.size w wr) (fun i _=>t.length - (intOf i).toNat)
 case atStart=>exact ⟨0,Nat.zero_le _,rfl,by simp,Below.refl _ _⟩
 case round=>
  obtain ⟨k,hk,rfl,hto,hb⟩:=hrel;have HTO:=hQ hto;have HB:=hQ hb;clear hto;by_cases hlt:k < t.length
  ·obtain ⟨ad,p,c0,c1,c2,c3,rfl,hpe,hr,q0,q1,q2,q3⟩:=Zec kTg_n HP.out hb hlt
   obtain ⟨tk,TL,TA,tl,tc,ta,td,hcs,hs,hy⟩:=Zdq hr;obtain ⟨hn1,hn2,_⟩:=Zpg hlt HW.out;injection hcs with e0 hcs
   injection hcs with e1 hcs
   injection hcs with e2 hcs
   injection hcs with e3 hcs
   subst e0 e1 e2 e3;have HN:=hQ (fun (W:World)=>Zee t[k].1 W hn1);have HRW:=hQ (fun (W:World) (hB:Below wr.heap.size wr W)=>Zcf t[k].2 W _ (kTy.keep hy hB) hn2);have HS:=hQ (fun hf=>Zjb (f:=tgB) HTO.out hlt hf);have HNO:=hQ (fun hf=>Zrk (f:=tgB) hlt hf);have HDB:Hid (tgB t[k]=(nameB t[k].1 && Zae t[k].2)):=hQ rfl;generalize t[k].2=ty at HRW HDB;generalize tgB t[k]=dB at HS HNO HDB;generalize t[k].1=nm at HN HDB q0 hn1;clear hr hcs hs hy hn2 hk;cases hnb:nameB nm
   ·have HF:Hid (cb=false):=hQ (by rw [HD.out,HNO.out (by rw [HDB.out,hnb];rfl)];simp)
    rw [hnb] at HN;have HR:Hid (Truth cb w (.returned (.bool false)) wr):=hQ ⟨by rw [HF.out],HB.out⟩;clear hnb HRW hb;go_wp2_with (go_at_call 61;refine (HN.out _).mono ?_;rintro e W ⟨rfl,rfl⟩);go_ret;exact HR.out
   ·rw [hnb] at HN
    clear hb;go_wp2_with (go_at_call 61;refine (HN.out _).mono ?_;rintro e W ⟨rfl,rfl⟩);refine (HRW.out wr bQ).mono ?_;rintro e w2 ⟨rfl,hb2⟩;have HB2:=hQ (HB.out.trans (hb2.mono HB.out.size));clear hb2 q0 q1 q2 q3;cases hrb:Zae ty
    ·have HF:Hid (cb=false):=hQ (by rw [HD.out,HNO.out (by rw [HDB.out,hnb,hrb];rfl)];simp)
     have HR:Hid (Truth cb w (.returned (.bool false)) w2):=hQ ⟨by rw [HF.out],HB2.out⟩;clear hnb hrb HRW;go_wp2_with fail;go_ret;exact HR.out
    ·have HT:=hQ (HS.out (by rw [HDB.out,hnb,hrb];rfl))
     clear hnb hrb HRW HS HNO HDB;go_wp2_with fail;go_roundw
     case rel=>exact ⟨k+1,hlt,by go_num,HT.out,HB2.out⟩
     case measure=>simp [intOf];omega
  ·have he:k=t.length:=by omega
   have h1:=HTO.out;rw [he,List.take_length] at h1;have HF:Hid (Truth cb w (.returned (.bool (decide ((t.length:Int)<=16)))) wr):=by
    have e1:decide ((t.length:Int)<=16)=decide (t.length<=16):=by rw [decide_eq_decide];omega
    rw [HD.out,h1,e1];exact ⟨by simp,HB.out⟩
   clear he hb h1;go_wp2_with fail;go_ret;exact HF.out
theorem Zpb (t:Ty)(w:World)(cs:List Value)(h:RTy w t cs)(hw:wt t<=1048576):Calls Tryz.prog 56 #[.agg cs.toArray] w (Truth (dataB t) w):=by
 obtain ⟨c0,c1,c2,W1,H,rfl,hH,hW1,hbox,hb0⟩:=boxed h;have HV:=hQ (Zcf t W1 _ (h.keep hb0) hw);have HH:=hQ (fun W (hB:Below w.heap.size w W)=>Zkb 5 t W _ (h.keep hB));have HW1:=hQ hW1;have B0:=hQ hbox;have HB0:=hQ hb0;have x0:=hbox.c0;have x1:=hbox.c1;have x2:=hbox.c2;clear h hw hW1 hbox hb0;go_enter Tryz.func56,Tryz.ntmps56;go_wp2_with fail;rw [HW1.out];go_wp2_with fail;refine HV.out.mono ?_;rintro e w1 ⟨rfl,hb1⟩;have HB1:=hQ (HB0.out.trans (hb1.mono HB0.out.size));have b1:=B0.out.under hb1 B0.out.lt;clear hb1 x0 x1 x2;have x0:=b1.c0;have x1:=b1.c1;have x2:=b1.c2;clear b1;cases hv:Zae t
 ·have HR:=hQ (Zag (a:=dataB t) (b:=false) (by unfold dataB;rw [hv];rfl) HB1.out)
  clear hv;go_wp2_with fail;go_ret;exact HR.out
 ·have HE:Hid (dataB t=!(Tr.has 5 t)):=hQ (by unfold dataB;rw [hv];rfl)
  have HC:=hQ (HH.out w1 HB1.out);clear hv;go_wp2_with fail;refine HC.out.mono ?_;rintro e w2 ⟨rfl,hb2⟩;have HR:=hQ (Zag HE.out (HB1.out.trans (hb2.mono HB1.out.size)));clear hb2;go_wp2_with fail;go_ret;exact HR.out
theorem Zabo (xs:Sc)(hsw:wSc xs<=1000000):∀ t:Te,TypK xs t:=by
 refine Tr.ind ?_
 intro a ks ih w c A d ss cs hs hc h hsz hcw hf hwt
 rw [Zabq];have hks:=Zjx a ks;obtain ⟨hark,hfb,hfk⟩:=Zdu hf;have hwk:∀ t∈ks,wte t<=1048576:=fun t ht=>Nat.le_trans (Zig ht) hwt
 have hsk:∀ t∈ks,t.size+1<=(Tr.node a ks).size:=fun t ht=>Zdz ht
 refine Ztr xs a ks A c.length d w ss cs (someT xs c a ks) hs h (fun t ht=>Zym hsw hcw hf (by omega) ht) fun W hB=>?_
 have hs1:=hs.keep hB;have hc1:=hc.keep hB;have h1:=h.keep hB;by_cases h13:a.kind=13
 ·have hn:ks.length=1:=by
   have e:arN a.kind a.name a.labels.length=1:=by rw [h13];rfl
   rw [e] at hark
   omega
  obtain ⟨t,rfl⟩:=len1 hn;have hst:=hsk t (by simp);refine Zpa xs a [t] A c.length d W ss cs _ hs1 h1 h13 fun W2 hB2=>?_
  exact Zacq xs c a t A d W2 ss cs (hs1.keep hB2) (hc1.keep hB2) (h1.keep hB2) h13 (ih t (by simp)) (by omega) hcw (hfk t (by simp)) (hwk t (by simp)) (Zhw hwt).1
 by_cases h10:a.kind=10
 ·have hn:ks.length=2:=by
   have e:arN a.kind a.name a.labels.length=2:=by rw [h10];rfl
   rw [e] at hark
   omega
  obtain ⟨t,u,rfl⟩:=len2 hn;have hst:(Tr.node a [t,u]).size=1+(t.size+(u.size+0)):=Tr.sum_node _ a [t,u];refine Zoz xs a [t,u] A c.length d W ss cs _ hs1 h1 h10 fun W2 hB2=>?_
  exact Zacp xs c a t u A d W2 ss cs (hs1.keep hB2) (hc1.keep hB2) (h1.keep hB2) h10 (ih t (by simp)) (ih u (by simp)) (by omega) hcw (hfk t (by simp)) (hfk u (by simp)) (hwk t (by simp)) (hwk u (by simp))
 by_cases hk0:ks.length=0
 ·obtain rfl:ks=[]:=List.eq_nil_of_length_eq_zero hk0
  have hkd:a.kind=1∨a.kind=2∨a.kind=3∨a.kind=7∨a.kind=12:=by
   have e:arN a.kind a.name a.labels.length=0:=hark.symm;unfold arN at e
   split at e
   ·rename_i hh
    exact hh
   split at e
   ·rename_i hh
    have e2:arB a.name=0:=e;exact absurd e2 (Zlr hfb hh)
   split at e
   ·rename_i hh
    have:=(Zkc (Zlq hfb hh)).2.1
    omega
   split at e
   ·omega
   split at e
   ·omega
   split at e
   ·omega
   ·omega
  refine Zyj xs a A c.length d W ss cs _ hs1 h1 h13 h10 fun W2 hB2=>?_
  have e:someT xs c a []=Zac xs c a []:=Zko (Zih xs a [] c);rw [e];exact Zqd xs c a A d W2 ss cs (hs1.keep hB2) (hc1.keep hB2) (h1.keep hB2) (by omega) hcw (Zhw hwt).1 (by omega) hkd
 ·exact Zuq xs a ks ih A d c W ss cs hs1 hc1 h1 hsz hcw hf hwt h13 h10 (by omega)
theorem Zacj:∀ {xs:Sc},(∀ d∈xs,wDc d<=508)->(xs.map wDc).sum<=508 * xs.length
 | [],_=>by simp
 | t :: ts,h=>by
  have h1:=Zacj (xs:=ts) fun u hu=>h u (List.mem_cons_of_mem _ hu)
  have h2:=h t (by simp);rw [List.map_cons,List.sum_cons,List.length_cons,Nat.mul_succ]
  omega
theorem Zox {xs:Sc}(h:schB xs=true):wSc xs<=1000000:=by
 unfold schB at h;simp only [Bool.and_eq_true,List.all_eq_true,decide_eq_true_eq] at h;have h1:=Zacj (xs:=xs) fun d hd=>by
  have h2:=h.1 d hd;unfold declB at h2;simp only [Bool.and_eq_true] at h2;have h3:=Zsd h2.1;have h5:Zae d.2=true:=by
   have h6:=h2.2;unfold rowB at h6;simp only [Bool.and_eq_true] at h6;exact h6.1
  have h4:=Zbq h5;unfold wDc
  omega
 unfold wSc wL
 omega
theorem Zgt {c:Cx}(h:ctxB c=true):c.length<=16/\∀ x∈c,wt x.2<=1048576:=by
 unfold ctxB at h;simp only [Bool.and_eq_true,List.all_eq_true,decide_eq_true_eq] at h;refine ⟨h.1,fun x hx=>?_⟩;have h2:=h.2 x hx;unfold tgB at h2;simp only [Bool.and_eq_true] at h2;exact Nat.le_trans (Zbq h2.2) (by decide)
theorem Zef {t:Te}(h:Zcx t=true):t.size<=60/\t.formE=true:=by
 unfold Zcx at h;simp only [Bool.and_eq_true,decide_eq_true_eq] at h;exact ⟨h.1,h.2.2⟩
theorem Zle (xs:Sc)(c:Cx)(t:Te)(A:Option Addr)(d:Nat)(w:World)(ss cs:List Value)(hs:RSc w xs ss)(hc:RL kTg w A c)(h:RTe w t cs)(hsw:wSc xs<=1048576)(hcw:wL wTg c<=1048576)(hwt:wte t<=1048576) :
  Calls Tryz.prog 8 #[.agg ss.toArray,.slice A c.length d,.agg cs.toArray] w (MadeP (optP (typeD xs c t)) w):=by
 have hrte:=h;have HTY:=hQ (fun (W:World) (hB:Below w.heap.size w W) (h1:schB xs=true) (h2:ctxB c=true) (h3:Zcx t=true)=>Zabo xs (Zox h1) t W c A d ss cs (hs.keep hB) (hc.keep hB) (hrte.keep hB) (by have:=(Zgt h2).1;have:=(Zef h3).1;omega) (Zgt h2).2 (Zef h3).2 hwt);have HSB:=hQ (fun (W:World) (hB:Below w.heap.size w W)=>Zqw xs W ss (hs.keep hB) hsw);have HCB:=hQ (fun (W:World) (hB:Below w.heap.size w W)=>Zqu c W A d (hc.keep hB) hcw);have HVB:=hQ (fun (W:World) (hB:Below w.heap.size w W)=>Zlf t W cs (hrte.keep hB) hwt);obtain ⟨a,ks⟩:=t;obtain ⟨SA,sd,rfl,hsl,hsd,hsp⟩:=hs.open;obtain ⟨TL,tc,TA,td,LE,lc0,KA,kd,rfl,hT,hLb,hok,_,_,hkp⟩:=h.out;obtain ⟨W1,hW1⟩:∃ W1,((w.alloc (.cells #[.slice SA xs.length sd] 43)).alloc (.cells #[.int .i64 a.kind,.string a.name,.int .i64 a.num,.int .i64 a.type.top.kind,.slice TL a.type.top.labels.length tc,.slice TA a.type.kids.length td,.slice LE a.labels.length lc0,.slice KA ks.length kd] 49)).alloc (.cells #[.int .i64 0,.slice none 0 0,.slice none 0 0] 38)=W1:=⟨_,rfl⟩;obtain ⟨H,hH⟩:∃ H,w.heap.size=H:=⟨_,rfl⟩;have bs:Box1 W1 H 43 (.slice SA xs.length sd):=by rw [<-hW1,<-hH];exact ((Box1.new w _ _).alloc _).alloc _
 have bt:Box8 W1 (H+1) 49 (.int .i64 a.kind) (.string a.name) (.int .i64 a.num) (.int .i64 a.type.top.kind) (.slice TL a.type.top.labels.length tc) (.slice TA a.type.kids.length td) (.slice LE a.labels.length lc0) (.slice KA ks.length kd):=by
  rw [<-hW1,<-hH]
  have:=(Box8.new (w.alloc (.cells #[.slice SA xs.length sd] 43)) 49 (.int .i64 a.kind) (.string a.name) (.int .i64 a.num) (.int .i64 a.type.top.kind) (.slice TL a.type.top.labels.length tc) (.slice TA a.type.kids.length td) (.slice LE a.labels.length lc0) (.slice KA ks.length kd)).alloc (.cells #[.int .i64 0,.slice none 0 0,.slice none 0 0] 38)
  simpa using this
 have br:Box3 W1 (H+1+1) 38 (.int .i64 0) (.slice none 0 0) (.slice none 0 0):=by
  rw [<-hW1,<-hH]
  have:=Box3.new ((w.alloc (.cells #[.slice SA xs.length sd] 43)).alloc (.cells #[.int .i64 a.kind,.string a.name,.int .i64 a.num,.int .i64 a.type.top.kind,.slice TL a.type.top.labels.length tc,.slice TA a.type.kids.length td,.slice LE a.labels.length lc0,.slice KA ks.length kd] 49)) 38 (.int .i64 0) (.slice none 0 0) (.slice none 0 0)
  simpa using this
 have hb1:Below w.heap.size w W1:=by rw [<-hW1];exact ((bQ.alloc nQ _).alloc (by simp) _).alloc (by simp;omega) _
 have hs1:W1.heap.size=H+3:=by rw [<-hW1,<-hH];simp
 have HB1:=hQ hb1;have HS1:=hQ hs1;have HH:=hQ hH;have HW1:=hQ hW1;have BR:=hQ br;have UP:Hid (∀ W,Below W1.heap.size W1 W->W.cell? ⟨H+1,0,none⟩=some (.int .i64 a.kind)/\W.cell? ⟨H+1,1,none⟩=some (.string a.name)/\W.cell? ⟨H+1,2,none⟩=some (.int .i64 a.num)/\W.cell? ⟨H+1,3,none⟩=some (.int .i64 a.type.top.kind)/\W.cell? ⟨H+1,4,none⟩=some (.slice TL a.type.top.labels.length tc)/\W.cell? ⟨H+1,5,none⟩=some (.slice TA a.type.kids.length td)/\W.cell? ⟨H+1,6,none⟩=some (.slice LE a.labels.length lc0)/\W.cell? ⟨H+1,7,none⟩=some (.slice KA ks.length kd)/\W.cell? ⟨H,0,none⟩=some (.slice SA xs.length sd)):=hQ (fun W hB=>⟨(bt.under hB bt.lt).c0,(bt.under hB bt.lt).c1,(bt.under hB bt.lt).c2,(bt.under hB bt.lt).c3,(bt.under hB bt.lt).c4,(bt.under hB bt.lt).c5,(bt.under hB bt.lt).c6,(bt.under hB bt.lt).c7,(bs.under hB bs.lt).c0⟩);generalize ht:(Tr.node a ks:Te)=t at *
 obtain ⟨x0,x1,x2,x3,x4,x5,x6,x7,z0⟩:=UP.out W1 bQ;clear hs hc h hrte hsp hT hLb hok hkp hW1 bs bt br hs1 hsl hsd hsw hcw hwt ht;have HBW:=hQ (fun (W:World) (hB:Below W1.heap.size W1 W)=>HB1.out.trans (hB.mono HB1.out.size));have HBR:=hQ (fun (W:World) (hB:Below W1.heap.size W1 W)=>BR.out.under hB BR.out.lt);have HSZ:=hQ (fun (W:World) (hB:Below W1.heap.size W1 W)=>(by have:=hB.size;have:=HS1.out;omega:H+1+1 < W.heap.size));have HD:Hid (typeD xs c t=if schB xs=true/\ctxB c=true/\Zcx t=true then Tr.typ xs t c else none):=hQ rfl;have HTV:=hQ (fun (W:World) (hB:Below w.heap.size w W) (h1:schB xs=true) (h2:ctxB c=true) (h3:Zcx t=true)=>(HTY.out W hB h1 h2 h3));clear HTY hb1;obtain ⟨b1,hb1⟩:∃ b,schB xs=b:=⟨_,rfl⟩;obtain ⟨b2,hb2⟩:∃ b,ctxB c=b:=⟨_,rfl⟩;obtain ⟨b3,hb3⟩:∃ b,Zcx t=b:=⟨_,rfl⟩;rw [hb1] at HSB HD HTV;rw [hb2] at HCB HD HTV;rw [hb3] at HVB HD HTV;clear hb1 hb2 hb3;have hb0:Below W1.heap.size W1 W1:=Below.refl _ _;go_enter Tryz.func8,Tryz.ntmps8;go_wp2_with fail;rw [HW1.out];go_wp2_with fail;refine (HSB.out W1 (HBW.out W1 hb0)).mono ?_;rintro e W2 ⟨rfl,hb⟩;have B2:=hQ (hb0.trans (hb.mono (hb0).size));clear hb;obtain ⟨x0,x1,x2,x3,x4,x5,x6,x7,z0⟩:=UP.out W2 B2.out;cases b1
 ·have HNO:Hid (optP (typeD xs c t)=(Zap,false)):=hQ (by rw [HD.out];rfl)
  have HB5:=hQ (HBW.out W2 B2.out);have BR5:=hQ (HBR.out W2 B2.out);have HZZ:Hid (∀ U:World,W2.grownBy U (some (H+1+1))->MadeP (optP (typeD xs c t)) w (.returned (.tuple #[.agg #[.int .i64 0,.slice none 0 0,.slice none 0 0],.bool false])) U):=hQ (fun U hU=>(fun h=>by rw [HNO.out];exact h) <| (Zaj (HB5.out.grown hU HB5.out.size (fun k hk=>by injection hk with hk;have:=HH.out;omega))));have r0:=BR5.out.c0;have r1:=BR5.out.c1;have r2:=BR5.out.c2;have s0:=BR5.out.free 0;have s1:=BR5.out.free 1;have s2:=BR5.out.free 2;go_wp2_with fail;generalize hU:((W2.setCell ⟨H+1+1,0,none⟩ (.int .i64 0)).setCell ⟨H+1+1,1,none⟩ (.slice none 0 0)).setCell ⟨H+1+1,2,none⟩ (.slice none 0 0)=U;have hgU:W2.grownBy U (some (H+1+1)):=by rw [<-hU];exact Zaa (Zaa (Zaa (gQ) _) _) _
  have u1:Box3 U (H+1+1) 38 (.int .i64 0) (.slice none 0 0) (.slice none 0 0):=by
   rw [<-hU];exact ((BR5.out.set0 _).set1 _).set2 _
  have HRR:=hQ (HZZ.out U hgU);have tt0:=u1.c0;have tt1:=u1.c1;have tt2:=u1.c2;clear hU hgU u1 r0 r1 r2 s0 s1 s2;exact bodyPost_ret (v:=.tuple #[.agg #[.int .i64 0,.slice none 0 0,.slice none 0 0],.bool false]) (by simp [results,Tryz.results8,go_sem,tt0,tt1,tt2]) rfl HRR.out
 ·go_wp2_with fail
  refine (HCB.out W2 (HBW.out W2 B2.out)).mono ?_;rintro e W3 ⟨rfl,hb⟩;have B3:=hQ (B2.out.trans (hb.mono (B2.out).size));clear hb;obtain ⟨x0,x1,x2,x3,x4,x5,x6,x7,z0⟩:=UP.out W3 B3.out;cases b2
  ·have HNO:Hid (optP (typeD xs c t)=(Zap,false)):=hQ (by rw [HD.out];rfl)
   have HB5:=hQ (HBW.out W3 B3.out);have BR5:=hQ (HBR.out W3 B3.out);have HZZ:Hid (∀ U:World,W3.grownBy U (some (H+1+1))->MadeP (optP (typeD xs c t)) w (.returned (.tuple #[.agg #[.int .i64 0,.slice none 0 0,.slice none 0 0],.bool false])) U):=hQ (fun U hU=>(fun h=>by rw [HNO.out];exact h) <| (Zaj (HB5.out.grown hU HB5.out.size (fun k hk=>by injection hk with hk;have:=HH.out;omega))));have r0:=BR5.out.c0;have r1:=BR5.out.c1;have r2:=BR5.out.c2;have s0:=BR5.out.free 0;have s1:=BR5.out.free 1;have s2:=BR5.out.free 2;go_wp2_with fail;generalize hU:((W3.setCell ⟨H+1+1,0,none⟩ (.int .i64 0)).setCell ⟨H+1+1,1,none⟩ (.slice none 0 0)).setCell ⟨H+1+1,2,none⟩ (.slice none 0 0)=U;have hgU:W3.grownBy U (some (H+1+1)):=by rw [<-hU];exact Zaa (Zaa (Zaa (gQ) _) _) _
   have u1:Box3 U (H+1+1) 38 (.int .i64 0) (.slice none 0 0) (.slice none 0 0):=by
    rw [<-hU];exact ((BR5.out.set0 _).set1 _).set2 _
   have HRR:=hQ (HZZ.out U hgU);have tt0:=u1.c0;have tt1:=u1.c1;have tt2:=u1.c2;clear hU hgU u1 r0 r1 r2 s0 s1 s2;exact bodyPost_ret (v:=.tuple #[.agg #[.int .i64 0,.slice none 0 0,.slice none 0 0],.bool false]) (by simp [results,Tryz.results8,go_sem,tt0,tt1,tt2]) rfl HRR.out
  ·go_wp2_with fail
   refine (HVB.out W3 (HBW.out W3 B3.out)).mono ?_;rintro e W5 ⟨rfl,hb⟩;have B5:=hQ (B3.out.trans (hb.mono (B3.out).size));clear hb;obtain ⟨x0,x1,x2,x3,x4,x5,x6,x7,z0⟩:=UP.out W5 B5.out;have HB5:=hQ (HBW.out W5 B5.out);have BR5:=hQ (HBR.out W5 B5.out);have HS5:=hQ (HSZ.out W5 B5.out);cases b3
   ·have HNO:Hid (optP (typeD xs c t)=(Zap,false)):=hQ (by rw [HD.out];rfl)
    have HZZ:Hid (∀ U:World,W5.grownBy U (some (H+1+1))->MadeP (optP (typeD xs c t)) w (.returned (.tuple #[.agg #[.int .i64 0,.slice none 0 0,.slice none 0 0],.bool false])) U):=hQ (fun U hU=>(fun h=>by rw [HNO.out];exact h) <| (Zaj (HB5.out.grown hU HB5.out.size (fun k hk=>by injection hk with hk;have:=HH.out;omega))));have r0:=BR5.out.c0;have r1:=BR5.out.c1;have r2:=BR5.out.c2;have s0:=BR5.out.free 0;have s1:=BR5.out.free 1;have s2:=BR5.out.free 2;go_wp2_with fail;generalize hU:((W5.setCell ⟨H+1+1,0,none⟩ (.int .i64 0)).setCell ⟨H+1+1,1,none⟩ (.slice none 0 0)).setCell ⟨H+1+1,2,none⟩ (.slice none 0 0)=U;have hgU:W5.grownBy U (some (H+1+1)):=by rw [<-hU];exact Zaa (Zaa (Zaa (gQ) _) _) _
    have u1:Box3 U (H+1+1) 38 (.int .i64 0) (.slice none 0 0) (.slice none 0 0):=by
     rw [<-hU];exact ((BR5.out.set0 _).set1 _).set2 _
    have HRR:=hQ (HZZ.out U hgU);have tt0:=u1.c0;have tt1:=u1.c1;have tt2:=u1.c2;clear hU hgU u1 r0 r1 r2 s0 s1 s2;exact bodyPost_ret (v:=.tuple #[.agg #[.int .i64 0,.slice none 0 0,.slice none 0 0],.bool false]) (by simp [results,Tryz.results8,go_sem,tt0,tt1,tt2]) rfl HRR.out
   ·have HQ:Hid (∀ {e:Ending} {U:World},MadeP (optP (Tr.typ xs t c)) w e U->MadeP (optP (typeD xs c t)) w e U):=hQ (fun h=>by rw [HD.out,if_pos (by simp)];exact h)
    have HC:=hQ (HTV.out W5 HB5.out (by simp) (by simp) (by simp));go_wp2_with fail;refine HC.out.mono ?_;rintro e w3 hmade;have hb3:Below W5.heap.size W5 w3:=by
     obtain ⟨_,_,_,_,_,_,_,_,hb3⟩:=hmade;exact hb3
    have HBX:=hQ (BR5.out.under hb3 BR5.out.lt);have HM:=hQ (fun (U:World) (hU:w3.grownBy U (some (H+1+1)))=>Zdv (w:=w) (U:=U) hmade HB5.out (by have:=HS5.out;omega) (by have:=HH.out;omega) hU);obtain ⟨LL,AA,lc,dd,rfl,_⟩:=HM.out w3 (gQ);have HM2:Hid (∀ U:World,w3.grownBy U (some (H+1+1))->MadeP (optP (typeD xs c t)) w (.returned (.tuple #[.agg #[.int .i64 ((optP (Tr.typ xs t c))).1.top.kind,.slice LL ((optP (Tr.typ xs t c))).1.top.labels.length lc,.slice AA ((optP (Tr.typ xs t c))).1.kids.length dd],.bool ((optP (Tr.typ xs t c))).2])) U):=hQ (by
     intro U hU
     obtain ⟨L9,A9,c9,d9,e9,h9⟩:=HM.out U hU;injection e9 with e9
     rw [<-e9] at h9;exact HQ.out h9)
    generalize ((optP (Tr.typ xs t c))).1.top.kind=y0 at HM2 ⊢;generalize ((optP (Tr.typ xs t c))).1.top.labels.length=y1 at HM2 ⊢;generalize ((optP (Tr.typ xs t c))).1.kids.length=y2 at HM2 ⊢;generalize ((optP (Tr.typ xs t c))).2=bb at HM2 ⊢;have bn:=Box3.new w3 38 (.int .i64 y0) (.slice LL y1 lc) (.slice AA y2 dd);have n0:=bn.c0;have n1:=bn.c1;have n2:=bn.c2;have HBA:=hQ (HBX.out.alloc (.cells #[.int .i64 y0,.slice LL y1 lc,.slice AA y2 dd] 38));have r0:=HBA.out.c0;have r1:=HBA.out.c1;have r2:=HBA.out.c2;have s0:=HBA.out.free 0;have s1:=HBA.out.free 1;have s2:=HBA.out.free 2;clear hmade hb3 HM bn;go_wp2_with fail;generalize hU:(((w3.alloc (.cells #[.int .i64 y0,.slice LL y1 lc,.slice AA y2 dd] 38)).setCell ⟨H+1+1,0,none⟩ (.int .i64 y0)).setCell ⟨H+1+1,1,none⟩ (.slice LL y1 lc)).setCell ⟨H+1+1,2,none⟩ (.slice AA y2 dd)=U;have hgU:w3.grownBy U (some (H+1+1)):=by rw [<-hU];exact Zaa (Zaa (Zaa (Zbk _ _) _) _) _
    have u1:Box3 U (H+1+1) 38 (.int .i64 y0) (.slice LL y1 lc) (.slice AA y2 dd):=by
     rw [<-hU];exact ((HBA.out.set0 _).set1 _).set2 _
    have HRR:=hQ (HM2.out U hgU);have tt0:=u1.c0;have tt1:=u1.c1;have tt2:=u1.c2;clear hU hgU u1 r0 r1 r2 s0 s1 s2 n0 n1 n2;exact bodyPost_ret (v:=.tuple #[.agg #[.int .i64 y0,.slice LL y1 lc,.slice AA y2 dd],.bool bb]) (by simp [results,Tryz.results8,go_sem,tt0,tt1,tt2]) rfl HRR.out
noncomputable def Ziy (xs:Sc)(t:Te):Bool:=match typeD xs [] t with|some u=>isBag u && dataB u|none=>false
theorem Zsk (w:World)(A:Option Addr):RL kTg w A []:=⟨fun _=>[],fun j x hj=>by simp at hj⟩
theorem Zku {xs:Sc}{c:Cx}{t:Te}{u:Ty}(h:typeD xs c t=some u):Zae u=true:=by
 unfold typeD at h
 split at h
 ·exact Zfy h
 ·cases h
theorem Zkq (xs:Sc)(t:Te)(w:World)(ss cs:List Value)(hs:RSc w xs ss)(h:RTe w t cs)(hsw:wSc xs<=1048576)(hwt:wte t<=1048576) :
  Calls Tryz.prog 22 #[.agg ss.toArray,.agg cs.toArray] w (Truth (Ziy xs t) w):=by
 have hrte:=h;have HTO:=hQ (fun (W:World) (A:Option Addr) (d:Nat) (hB:Below w.heap.size w W)=>Zle xs [] t A d W ss cs (hs.keep hB) (Zsk W A) (hrte.keep hB) hsw (by unfold wL;simp) hwt);have HD:Hid (Ziy xs t=(match typeD xs [] t with|some u=>isBag u && dataB u|none=>false)):=hQ rfl;have HVA:=hQ (fun (u:Ty) (h:typeD xs [] t=some u)=>Nat.le_trans (Zbq (Zku h)) (by decide:504<=1048576));generalize typeD xs [] t=o at HTO HD HVA;generalize Ziy xs t=qb at HD ⊢;obtain ⟨a,ks⟩:=t;obtain ⟨SA,sd,rfl,hsl,hsd,hsp⟩:=hs.open;obtain ⟨TL,tc,TA,td,LE,lc0,KA,kd,rfl,hT,hLb,hok,_,_,hkp⟩:=h.out;obtain ⟨W1,hW1⟩:∃ W1,(w.alloc (.cells #[.slice SA xs.length sd] 43)).alloc (.cells #[.int .i64 a.kind,.string a.name,.int .i64 a.num,.int .i64 a.type.top.kind,.slice TL a.type.top.labels.length tc,.slice TA a.type.kids.length td,.slice LE a.labels.length lc0,.slice KA ks.length kd] 49)=W1:=⟨_,rfl⟩;obtain ⟨H,hH⟩:∃ H,w.heap.size=H:=⟨_,rfl⟩;have bs:Box1 W1 H 43 (.slice SA xs.length sd):=by rw [<-hW1,<-hH];exact (Box1.new w _ _).alloc _
 have bt:Box8 W1 (H+1) 49 (.int .i64 a.kind) (.string a.name) (.int .i64 a.num) (.int .i64 a.type.top.kind) (.slice TL a.type.top.labels.length tc) (.slice TA a.type.kids.length td) (.slice LE a.labels.length lc0) (.slice KA ks.length kd):=by
  rw [<-hW1,<-hH]
  have:=Box8.new (w.alloc (.cells #[.slice SA xs.length sd] 43)) 49 (.int .i64 a.kind) (.string a.name) (.int .i64 a.num) (.int .i64 a.type.top.kind) (.slice TL a.type.top.labels.length tc) (.slice TA a.type.kids.length td) (.slice LE a.labels.length lc0) (.slice KA ks.length kd)
  simpa using this
 have hb1:Below w.heap.size w W1:=by rw [<-hW1];exact (bQ.alloc nQ _).alloc (by simp) _
 have hs1:W1.heap.size=H+2:=by rw [<-hW1,<-hH];simp
 have HB1:=hQ hb1;have HS1:=hQ hs1;have HH:=hQ hH;have HW1:=hQ hW1;obtain ⟨W2,hW2⟩:∃ W2,W1.alloc (.cells #[] 74)=W2:=⟨_,rfl⟩;have hb12:Below W1.heap.size W1 W2:=by rw [<-hW2];exact bQ.alloc nQ _
 have HB2:=hQ (hb1.trans (hb12.mono hb1.size));have HW2:=hQ hW2;have hl0:([]:Cx).length=0:=rfl;rw [hl0] at HTO;have HC:=hQ (HTO.out W2 (some ⟨H+2,0,none⟩) 0 HB2.out);have x0:=bt.c0;have x1:=bt.c1;have x2:=bt.c2;have x3:=bt.c3;have x4:=bt.c4;have x5:=bt.c5;have x6:=bt.c6;have x7:=bt.c7;have z0:=bs.c0;have y0:=(bt.under hb12 bt.lt).c0;have y1:=(bt.under hb12 bt.lt).c1;have y2:=(bt.under hb12 bt.lt).c2;have y3:=(bt.under hb12 bt.lt).c3;have y4:=(bt.under hb12 bt.lt).c4;have y5:=(bt.under hb12 bt.lt).c5;have y6:=(bt.under hb12 bt.lt).c6;have y7:=(bt.under hb12 bt.lt).c7;rw [<-hW2] at y0 y1 y2 y3 y4 y5 y6 y7;clear hs h hrte hsp hT hLb hok hkp hW1 bs bt hb1 hs1 hsl hsd hsw hwt hW2 hb12 hl0 HTO;go_enter Tryz.func22,Tryz.ntmps22;go_wp2_with fail;rw [HW1.out];go_wp2_with fail;rw [HW2.out];refine HC.out.mono ?_;rintro e w3 ⟨LL,AA,lc,dd,fp,rfl,hot,hfp,hb3⟩;have HB3:=hQ ((HB2.out.trans (hb3.mono HB2.out.size)).alloc (HB2.out.trans (hb3.mono HB2.out.size)).size (.cells #[.int .i64 (optP o).1.top.kind,.slice LL (optP o).1.top.labels.length lc,.slice AA (optP o).1.kids.length dd] 38));have hal:Below w3.heap.size w3 (w3.alloc (.cells #[.int .i64 (optP o).1.top.kind,.slice LL (optP o).1.top.labels.length lc,.slice AA (optP o).1.kids.length dd] 38)):=bQ.alloc nQ _;have hdt:wt (optP o).1<=1048576->Calls Tryz.prog 56 #[.agg #[.int .i64 (optP o).1.top.kind,.slice LL (optP o).1.top.labels.length lc,.slice AA (optP o).1.kids.length dd]] _ _:=fun hw=>Zpb (optP o).1 _ _ ((OTy.reads hot).keep hal) hw
 have bn:=Box3.new w3 38 (.int .i64 (optP o).1.top.kind) (.slice LL (optP o).1.top.labels.length lc) (.slice AA (optP o).1.kids.length dd);have n0:=bn.c0;have n1:=bn.c1;have n2:=bn.c2;have HDT:=hQ hdt;clear hot hfp hb3 hal hdt bn x0 x1 x2 x3 x4 x5 x6 x7 z0 y0 y1 y2 y3 y4 y5 y6 y7 HC;cases o with
 | none=>
  have HR:Hid (∀ U,Below w.heap.size w U->Truth qb w (.returned (.bool false)) U):=hQ (fun U hU=>⟨by rw [HD.out],hU⟩);have e0:(optP none).2=false:=rfl;rw [e0];clear e0;generalize (optP none).1.top.kind=q0 at *
  generalize (optP none).1.top.labels.length=q1 at *
  generalize (optP none).1.kids.length=q2 at *
  have HF:=hQ (HR.out _ HB3.out);clear HDT HR;go_wp2_with fail;go_ret;exact HF.out
 | some u=>
  have e0:(optP (some u)).2=true:=rfl;have e1:(optP (some u)).1=u:=rfl;rw [e0];rw [e1] at HDT n0 n1 n2 HB3 ⊢;clear e0 e1;have HR:Hid (qb=(isBag u && dataB u)):=hQ HD.out;have HQ:Hid (isBag u=decide (u.top.kind=4)):=hQ rfl;have HDC:=hQ (HDT.out (HVA.out u rfl));clear HDT HVA HD;generalize u.top.kind=q0 at *
  generalize u.top.labels.length=q1 at *
  generalize u.kids.length=q2 at *
  by_cases hq:q0=4
  ·subst hq
   have HR2:Hid (qb=dataB u):=hQ (by rw [HR.out,HQ.out];rfl);go_wp2_with fail;refine HDC.out.mono ?_;rintro e w5 ⟨rfl,hb5⟩;have HF:Hid (Truth qb w (.returned (.bool (dataB u))) w5):=hQ ⟨by rw [HR2.out],HB3.out.trans (hb5.mono HB3.out.size)⟩;clear hb5 n0 n1 n2;generalize dataB u=bb at HF ⊢;go_wp2_with fail;go_ret;exact HF.out
  ·have hqb:(q0 == 4)=false:=by simpa using hq
   have HF:Hid (Truth qb w (.returned (.bool false)) (w3.alloc (.cells #[.int .i64 q0,.slice LL q1 lc,.slice AA q2 dd] 38))):=hQ ⟨by rw [HR.out,HQ.out,decide_eq_false hq];rfl,HB3.out⟩;go_wp2_with fail;go_ret;exact HF.out
end Go.Proofs.YtlcedleebbgebaaGreatDoor
namespace Go.Proofs.YtlcedleebbgebaaGreatDoor
open Go.RowKit Go.Extern.Stop Go.Stop Go.Extern
theorem Zaae (v:Value)(w:World):(Extern.ReflectliteType.typeOf #[.iface 215 v]).run Tryz.prog w=.ok (.iface 151 (.agg #[.pointer (some ⟨2,215,none⟩)])) w:=by kernel_rfl
theorem Zoe (w:World):((Extern.ReflectliteType.method fun t=>do Go.Extern.Rtype.noPackHeld "Comparable" t;pure (.bool (<-typeInfo t).comparable)) #[.agg #[.pointer (some ⟨2,215,none⟩)]]).run Tryz.prog w=.ok (.bool true) w:=by kernel_rfl
theorem Zgw (v:Value)(w:World):(Go.method 353 151 v "Comparable").run Tryz.prog w=.ok (188,v) w:=by kernel_rfl
theorem Zafi:(Tryz.prog.info? 215).map (·.comparable)=some true:=by kernel_rfl
theorem Zafj:(Tryz.prog.info? 241).map (·.size)=some 1:=by kernel_rfl
theorem Zade (a:Addr)(w:World) :
  Calls Tryz.prog 42 #[.iface 215 (.pointer (some a)),.iface 215 (.pointer (some a))] w fun e w'=>e=.returned (.bool true)/\w'=w:=by
 obtain ⟨i,hi,hcmp⟩:=Option.map_eq_some_iff.1 Zafi;obtain ⟨j,hj,hjs⟩:=Option.map_eq_some_iff.1 Zafj;have h8:=@run_callFunc_extern Tryz.prog 84 _ Extern.ReflectliteType.typeOf Tryz.func84 (by kernel_rfl) (by kernel_rfl) (by kernel_rfl) (by kernel_rfl);obtain ⟨M,h32,cT⟩:∃ M:Array Value->Sem Value,(∀ (args:Array Value) (w:World),Sem.run Tryz.prog (callFunc 188 args) w=(Sem.run Tryz.prog (M args) w).andThen fun v w'=>Result.ok (Next.value v) w')/\∀ w,(M #[.agg #[.pointer (some ⟨2,215,none⟩)]]).run Tryz.prog w=.ok (.bool true) w:=
  ⟨_,fun args w=>run_callFunc_extern (e:=Extern.ReflectliteType.method fun t=>do Go.Extern.Rtype.noPackHeld "Comparable" t;pure (.bool (<-typeInfo t).comparable)) Tryz.func188 (by kernel_rfl) (by kernel_rfl) (by kernel_rfl) (by kernel_rfl) args w,Zoe⟩
 have tT:=Zaae;have mR:=Zgw;have heq:=run_eql_iface_ptr_same (P:=Tryz.prog) w a Tryz.underlying80 Tryz.underlying215 hi hcmp hj;go_enter Tryz.func42,Tryz.ntmps42;go_wp2;refine wp_loop_rounds 1 ?_;rw [rounds_succ];go_wp2;go_ret;exact ⟨rfl,rfl⟩
theorem Zafk (b:Addr)(w:World) :
  Calls Tryz.prog 42 #[.nilIface,.iface 215 (.pointer (some b))] w fun e w'=>e=.returned (.bool false)/\w'=w:=by
 have hn:=run_eql_iface_nil_left (P:=Tryz.prog) w 215 (.pointer (some b)) Tryz.underlying80;go_enter Tryz.func42,Tryz.ntmps42;go_wp2;go_ret;exact ⟨rfl,rfl⟩
end Go.Proofs.YtlcedleebbgebaaGreatDoor
namespace Go.Proofs.YtlcedleebbgebaaGreatDoor
open Go.RowKit
def arTab:List Int:=[0,0,0,0,0,0,1,0,1,2,2,3,0,1,2,1,1]
def tName (p:Int)(s:ByteArray):Bool:=if nmB p then nameB s else if p=4 then decide (0 < arB s) else (s.toList == [])
noncomputable def tType (p:Int)(t:Ty):Bool:=if tyB p then Zae t else same t Zap
def tLab (p:Int)(ls:List ByteArray):Bool:=if p=5 then labB ls else decide (ls.length=0)
def tArgs (p:Int)(s:ByteArray)(l n:Nat):Bool:=if p=4 then decide ((n:Int)=arB s) else if p=5 then decide ((n:Int)=(l:Int)) else decide ((n:Int)=arTab.getD p.toNat 0)
theorem nmB_4:nmB 4=false:=by decide
theorem Zqj {s:ByteArray}(h:s.toList=[]):nameB s=false:=by
 have h0:s.size=0:=by
  have e:s.toList.length=s.size:=by rw [ByteArray.toList_eq,Array.length_toList];rfl
  rw [<-e,h]
  rfl
 unfold nameB;rw [decide_eq_false (p:=1<=s.size) (by omega),Bool.false_and,Bool.and_false]
theorem Zado (p:Int)(s:ByteArray):Zct p (arB s) (nameB s) (s.toList == [])=tName p s:=by
 unfold Zct tName;by_cases h4:p=4
 ·subst h4
  rw [if_pos rfl,nmB_4,if_pos rfl]
  have:=Zaey s
  by_cases h:arB s=0
  ·rw [h];rfl
  ·rw [decide_eq_false h,decide_eq_true (by omega)]
   rfl
 ·rw [if_neg h4]
  cases hn:nmB p with
  | true=>cases nameB s <;> rfl
  | false=>
   rw [if_neg (by simp),if_neg h4];by_cases he:s.toList=[]
   ·rw [Zqj he]
    simp
   ·have:(s.toList == [])=false:=by simpa using he
    rw [this]
    simp
theorem Zvg:Zae Zap=false:=by
 unfold Zae Zap
 have:Tr.form (.node ⟨0,[]⟩ []:Ty)=false:=by rw [Zcr];rfl
 rw [this]
 simp
theorem Zyh (t:Ty):same t Zap=(decide (t.top.kind=0) && (decide (t.top.labels.length=0) && decide (t.kids.length=0))):=by
 cases t with
 | node a ks=>
  show same (Tr.node a ks) Zap=(decide (a.kind=0) && (decide (a.labels.length=0) && decide (ks.length=0)))
  by_cases h:a.kind=0/\a.labels.length=0/\ks.length=0
  ·obtain ⟨h1,h2,h3⟩:=h
   rw [decide_eq_true h1,decide_eq_true h2,decide_eq_true h3];exact ty_eq h1 (List.eq_nil_of_length_eq_zero h2) (List.eq_nil_of_length_eq_zero h3)
  ·have hr:(decide (a.kind=0) && (decide (a.labels.length=0) && decide (ks.length=0)))=false:=by
    rw [Bool.eq_false_iff]
    intro e
    simp only [Bool.and_eq_true,decide_eq_true_eq] at e;exact h e
   rw [hr];refine Zfx fun e=>h ?_
   unfold Zap at e;injection e with e1 e2
   rw [e1,e2];exact ⟨rfl,rfl,rfl⟩
theorem Zaeo (p:Int)(t:Ty):Zdi p (Zae t) t.top.kind t.top.labels.length t.kids.length=tType p t:=by
 unfold Zdi tType;cases ht:tyB p with
 | true=>cases Zae t <;> rfl
 | false=>
  rw [if_neg (by simp),<-Zyh];by_cases h:t=Zap
  ·rw [h,Zvg,Zhr rfl];rfl
  ·rw [Zfx h];simp
theorem Zafl (p:Int)(ls:List ByteArray):labOk p (labB ls) ls.length=tLab p ls:=rfl
theorem Zaco {p:Int}(h1:1<=p)(h16:p<=16)(s:ByteArray)(l n:Nat):decide ((n:Int)=arN p s l)=tArgs p s l n:=by
 have h:p=1∨p=2∨p=3∨p=4∨p=5∨p=6∨p=7∨p=8∨p=9∨p=10∨p=11∨p=12∨p=13∨p=14∨p=15∨p=16:=by omega
 rcases h with h|h|h|h|h|h|h|h|h|h|h|h|h|h|h|h <;> (subst h;rfl)
theorem Zacn {p:Int}(h:p < 1∨16 < p)(s:ByteArray)(l:Nat):arN p s l=-1:=by
 unfold arN;rw [if_neg (by omega),if_neg (by omega),if_neg (by omega),if_neg (by omega),if_neg (by omega),if_neg (by omega)]
theorem Zaaq {a:TeA}{n:Nat}(h:a.kind < 1∨16 < a.kind):nodeE a n=false:=by
 unfold nodeE;rw [Zacn h,decide_eq_false (by omega),Bool.and_false]
theorem Zadw {a:TeA}{n:Nat}(h1:1<=a.kind)(h16:a.kind<=16):nodeE a n=(tName a.kind a.name && (numOk a.kind a.num && (tType a.kind a.type && (tLab a.kind a.labels && tArgs a.kind a.name a.labels.length n)))):=by
 unfold nodeE Zdb;rw [Zado,Zaeo,Zafl,Zaco h1 h16];cases tName a.kind a.name <;> cases tType a.kind a.type <;> cases tLab a.kind a.labels <;> cases numOk a.kind a.num <;> simp
theorem Zwm:∀ (t:Te)(d:Nat),t.formE=(t.pre d).all fun p=>nodeE p.2.top p.2.kids.length:=by
 refine Tr.ind ?_
 intro a ks ih d
 rw [Zib,Zge,List.all_cons,Bool.and_comm]
 congr 1
 have h:∀ (ts:List Te),(∀ t∈ts,t∈ks)->ts.all Tr.formE=(preL (d+1) ts).all fun p=>nodeE p.2.top p.2.kids.length:=by
  intro ts
  induction ts with
  | nil=>intro _;rfl
  | cons t ts iht=>
   intro hm
   rw [Zer,List.all_append,List.all_cons,ih t (hm t (by simp)) (d+1),iht (fun x hx=>hm x (by simp [hx]))]
 exact h ks fun _ h=>h
theorem Zpo:∀ (t:Te)(d:Nat)(p:Nat×Te),p∈t.pre d->wte p.2<=wte t:=by
 refine Tr.ind ?_
 intro a ks ih d p hp
 rw [Zge] at hp
 rcases List.mem_cons.1 hp with rfl|hp
 ·exact Nat.le_refl _
 ·unfold preL at hp
  obtain ⟨l,hl,hp⟩:=List.mem_flatten.1 hp;obtain ⟨t,ht,rfl⟩:=List.mem_map.1 hl;have h1:=ih t ht _ p hp;have h2:wte t<=wte (.node a ks):=by
   rw [Zds]
   have:=Zbh wte ht
   unfold wteK
   omega
  omega
theorem Zvc (t:Te):wt t.top.type<=wte t:=by
 cases t with
 | node a ks=>
  rw [Zds]
  show wt a.type<=_
  unfold wteA
  omega
theorem Zke (t:Te):t.top.name.size<=wte t:=by
 cases t with
 | node a ks=>
  rw [Zds]
  show a.name.size<=_
  unfold wteA
  omega
theorem Zvd {t:Te}{B:Nat}(h:wte t<=B):t.top.labels.length<=B/\∀ x∈t.top.labels,x.size<=B:=by
 cases t with
 | node a ks=>
  rw [Zds] at h;unfold wteA at h
  show a.labels.length<=B/\∀ x∈a.labels,x.size<=B
  exact ⟨by omega,fun x hx=>by have:=Zks hx;omega⟩
def Zaeu (s:ByteArray)(w:World)(e:Ending)(w':World):Prop:=e=.returned (.int .i64 (arB s))/\Below w.heap.size w w'
theorem Zjt (s:ByteArray)(w:World):Calls Tryz.prog 157 #[.string s] w (Arity s w):=by
 have hR:∀ k,k=arB s->Arity s w (.returned (.int .i64 k)) w:=fun k h=>⟨by rw [h],rfl⟩
 have HR:=hQ hR;clear hR;cases e0:(s.toList == [43]) with
 | true=>
  have HV:Hid ((2:Int)=arB s):=hQ (by unfold arB;simp only [e0,if_true]);go_enter Tryz.func157,Tryz.ntmps157;go_wp2_with fail;go_ret;exact HR.out _ HV.out
 | false=>
  cases e1:(s.toList == [45]) with
  | true=>
   have HV:Hid ((2:Int)=arB s):=hQ (by unfold arB;simp only [e0,e1,if_true,Bool.false_eq_true,if_false]);go_enter Tryz.func157,Tryz.ntmps157;go_wp2_with fail;go_ret;exact HR.out _ HV.out
  | false=>
   cases e2:(s.toList == [61]) with
   | true=>
    have HV:Hid ((2:Int)=arB s):=hQ (by unfold arB;simp only [e0,e1,e2,if_true,Bool.false_eq_true,if_false]);go_enter Tryz.func157,Tryz.ntmps157;go_wp2_with fail;go_ret;exact HR.out _ HV.out
   | false=>
    cases e3:(s.toList == [60]) with
    | true=>
     have HV:Hid ((2:Int)=arB s):=hQ (by unfold arB;simp only [e0,e1,e2,e3,if_true,Bool.false_eq_true,if_false]);go_enter Tryz.func157,Tryz.ntmps157;go_wp2_with fail;go_ret;exact HR.out _ HV.out
    | false=>
     cases e4:(s.toList == [38]) with
     | true=>
      have HV:Hid ((2:Int)=arB s):=hQ (by unfold arB;simp only [e0,e1,e2,e3,e4,if_true,Bool.false_eq_true,if_false]);go_enter Tryz.func157,Tryz.ntmps157;go_wp2_with fail;go_ret;exact HR.out _ HV.out
     | false=>
      cases e5:(s.toList == [124]) with
      | true=>
       have HV:Hid ((2:Int)=arB s):=hQ (by unfold arB;simp only [e0,e1,e2,e3,e4,e5,if_true,Bool.false_eq_true,if_false]);go_enter Tryz.func157,Tryz.ntmps157;go_wp2_with fail;go_ret;exact HR.out _ HV.out
      | false=>
       cases e6:(s.toList == [33]) with
       | true=>
        have HV:Hid ((1:Int)=arB s):=hQ (by unfold arB;simp only [e0,e1,e2,e3,e4,e5,e6,if_true,Bool.false_eq_true,if_false]);go_enter Tryz.func157,Tryz.ntmps157;go_wp2_with fail;go_ret;exact HR.out _ HV.out
       | false=>
        have HV:Hid ((0:Int)=arB s):=hQ (by unfold arB;simp only [e0,e1,e2,e3,e4,e5,e6,Bool.false_eq_true,if_false]);go_enter Tryz.func157,Tryz.ntmps157;go_wp2_with fail;go_ret;exact HR.out _ HV.out
theorem Zmw (s:ByteArray)(w:World):Calls Tryz.prog 157 #[.string s] w (Zaeu s w):=
 (Zjt s w).mono fun _ _ ⟨h1,h2⟩=>⟨h1,by subst h2;exact Below.refl _ _⟩
end Go.Proofs.YtlcedleebbgebaaGreatDoor
