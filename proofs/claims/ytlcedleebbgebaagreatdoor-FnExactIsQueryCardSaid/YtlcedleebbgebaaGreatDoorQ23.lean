/-
  Merged by program: TypV, TypI7, TypI8.
-/
import Derived.BigRegionIn
import Derived.Test.YtlcedleebbgebaaGreatDoorQ21
set_option maxRecDepth 100000
set_option maxHeartbeats 16000000
set_option linter.all false
namespace Go.Proofs.YtlcedleebbgebaaGreatDoor
open Go.RowKit Go.Shelf
attribute [local go_sem] Oper.semAt_some
def Zvm (p:Nat)(s:Value)(w:World)(e:Ending)(w':World):Prop:=e=.returned (.func (.func 159) #[] #[.pointer (some ⟨p,0,none⟩)])/\w'=w.alloc (.cells #[s] 45)
theorem Zkx (w:World)(A:Option Addr)(n c:Nat):Calls Tryz.prog 147 #[.slice A n c] w (Zvm w.heap.size (.slice A n c) w):=by
 have HR:Hid (Zvm w.heap.size (.slice A n c) w (.returned (.func (.func 159) #[] #[.pointer (some ⟨w.heap.size,0,none⟩)])) (w.alloc (.cells #[.slice A n c] 45))):=⟨rfl,rfl⟩;go_enter Tryz.func147,Tryz.ntmps147;go_wp2_with fail;go_ret;exact HR.out
theorem Zaek {w wr:World}{A:Option Addr}{xs:List Tg}(hp:RL kTg w A xs)(hb:Sub w wr) {k:Nat}(hk:k < xs.length):∃ (ad p:Addr)(c0 c1 c2 c3:Value),A=some ad/\ad.add (k * 4)=p/\kTg.R wr xs[k] [c0,c1,c2,c3]/\wr.cell? p=some c0/\wr.cell? ⟨p.block,p.off+1,none⟩=some c1/\wr.cell? ⟨p.block,p.off+2,none⟩=some c2/\wr.cell? ⟨p.block,p.off+3,none⟩=some c3:=
 Zec kTg_n (Zeb hp hb) bQ hk
def BRdTg (t:Cx)(w0:World)(k:Nat)(v:Array Value):Prop:=∃ (j:Nat)(h:j < t.length)(cs:List Value),j+1+k=t.length/\v=#[.int .i64 (j:Int),.agg cs.toArray]/\kTg.R w0 t[j] cs
theorem BRdTg.size {t:Cx}{w0:World}{k:Nat}{v:Array Value}(h:BRdTg t w0 k v):v.size=2:=by
 obtain ⟨j,hj,cs,_,rfl,_⟩:=h
 rfl
theorem Zhz (t:Cx)(w0:World)(A:Option Addr)(c:Nat)(hp:RL kTg w0 A t)(hl:t.length<=1048576)(n Bx:Nat)(hn:2<=n)(Keep:Nat->Prop)(hkx:Keep Bx)
  (W:World) (hkW:∀ b,Keep b->b < W.heap.size) (hsub:∀ wr,Held Keep W wr->Sub w0 wr) (hbox:Boxed W Bx 45 (.slice A t.length c)) :
  Zco Fence.wide n Tryz.prog 159 #[.pointer (some ⟨Bx,0,none⟩)] t.length (BRdTg t w0) (fun _=>True) Keep W:=by
 intro l J Jx hJ hJB hY h0
 have h1:1<=n:=by omega
 have x0:=hbox.cell;refine callsIn_of_wp Tryz.func159 rfl trivial ?_ rfl;simp only [Tryz.ntmps159,List.size_toArray,List.length_cons,List.length_nil,Nat.reduceAdd,Nat.reduceSub,Array.replicate_succ,Array.replicate_zero,List.push_toArray,List.append_toArray,List.nil_append,List.cons_append];have HP:=hQ hp;have HJB:=hQ hJB;have HY:=hQ hY;have H0:=hQ h0;have HKX:=hQ hkx;have HKW:=hQ hkW;have HSB:=hQ hsub;have HBX:=hQ hbox;obtain ⟨M,hM⟩:∃ M,t.length=M:=⟨_,rfl⟩;rw [hM] at x0 hl ⊢;clear hp hJ hJB hY h0 hkx hkW hsub hbox
 gi_wp2
 gi_loopw [3] (fun i wr=>∃ (k:Nat) (F:Nat->Prop),k<=M/\i=.int .i64 ((M:Int) - 1 - (k:Int))/\J k F wr/\Held Keep W wr) (fun i _=>(intOf i+1).toNat)
 case atStart=>
  obtain ⟨F,hF⟩:=H0.out;exact ⟨0,F,Nat.zero_le _,by go_num,hF,Held.refl _ _⟩
 case round=>
  obtain ⟨k,F,hk,rfl,hj,hheld⟩:=hrel;clear x0;by_cases hlt:k < M
  ·obtain ⟨j,hjk⟩:∃ j,j+1+k=M:=⟨M - 1 - k,by omega⟩
   have hjl:j < t.length:=by omega
   have e1:(M:Int) - 1 - (k:Int)=(j:Int):=by omega
   rw [e1];have hbw:Sub w0 wr:=HSB.out wr hheld;obtain ⟨ad,p,c0,c1,c2,c3,rfl,hpe,hr,q0,q1,q2,q3⟩:=Zaek HP.out hbw hjl;have hr0:∃ cs,kTg.R w0 t[j] cs/\cs=[c0,c1,c2,c3]:=by
    obtain ⟨ps,hp⟩:=HP.out;obtain ⟨g1,ad',g2,g3⟩:=hp j t[j] (List.getElem?_eq_getElem hjl);refine ⟨ps j,g1,?_⟩;have hlen:(ps j).length=4:=kTg.len g1;injection g2 with g2
    subst g2;have hc:∀ i u,(ps j)[i]?=some u->wr.cell? (ad.add (j * 4+i))=some u:=fun i u hi=>hbw.2 _ _ (g3 i u hi)
    match hps:ps j,hlen with
    | [z0,z1,z2,z3],_=>
     rw [hps] at hc;have d0:=hc 0 z0 rfl;rw [Nat.add_zero,hpe,q0] at d0;have d1:=hc 1 z1 rfl;rw [Zao ad (j * 4) 1 (by omega),hpe,q1] at d1;have d2:=hc 2 z2 rfl;rw [Zao ad (j * 4) 2 (by omega),hpe,q2] at d2;have d3:=hc 3 z3 rfl;rw [Zao ad (j * 4) 3 (by omega),hpe,q3] at d3;injection d0 with d0
     injection d1 with d1
     injection d2 with d2
     injection d3 with d3
     rw [d0,d1,d2,d3]
   obtain ⟨cs0,hr0,rfl⟩:=hr0;have HC:=hQ (HY.out k #[.int .i64 (j:Int),.agg [c0,c1,c2,c3].toArray] F wr (by omega) hj ⟨j,hjl,_,by omega,rfl,hr0⟩);have hx0:Boxed wr Bx 45 (.slice (some ad) t.length c):=(hheld.block Bx (HKW.out _ HKX.out) HKX.out).trans HBX.out;have x0:=hx0.cell;rw [hM] at x0;have HH:=hQ hheld;have HKF:=hQ (fun b hb=>(HJB.out k F wr hj b hb).1);obtain ⟨tk,TL,TA,tl,tc,ta,td,hcs,hs,hy⟩:=Zdq hr;simp only [List.cons.injEq,and_true] at hcs;obtain ⟨rfl,rfl,rfl,rfl⟩:=hcs;obtain ⟨fn,tmps,assign,body,hyd,hR⟩:=HC.out;generalize t[j].1=nm at *
   clear hr hr0 hs hy HC hheld hj hbw hx0
   gi_wp2
   refine hR.mono ?_;rintro e W3 (⟨rfl,_,hh3,F',hF',hj3⟩|⟨rfl,hjx⟩)
   ·have HJ3:=hQ hj3
    have HH3:Hid (Held Keep W W3):=hQ (HH.out.trans (hh3.mono fun i _ hi hf=>HKF.out i hf hi));clear hh3 hF' hj3 hR
    gi_wp2
    go_roundw
    case rel=>exact ⟨k+1,F',hlt,by go_num,HJ3.out,HH3.out⟩
    case measure=>simp [intOf]
   ·have HJX:=hQ hjx
    clear hjx hR
    gi_wp2
    refine bodyPost_ret (results_none rfl _ _ _) rfl ?_;exact ⟨⟨_,rfl⟩,.inr HJX.out⟩
  ·have he:k=M:=by omega
   subst he;have HJ0:=hQ hj;clear hj hheld
   gi_wp2
   go_end0
   exact ⟨⟨_,rfl⟩,.inl ⟨F,HJ0.out⟩⟩
theorem Zkd:∀ (c:Cx)(nm:ByteArray),(∀ i (h:i < c.length),c[i].1≠nm)->look c nm=none
 | [],_,_=>rfl
 | d :: c,nm,h=>by
  rw [look,Zkd c nm fun i hi=>h (i+1) (by simpa using hi)];exact if_neg (h 0 (by simp))
theorem Zxg:∀ (c:Cx)(nm:ByteArray)(j:Nat)(h:j < c.length),c[j].1=nm->(∀ i (hi:i < c.length),j < i->c[i].1≠nm)->look c nm=some c[j].2
 | d :: c,nm,0,h,e,hl=>by
  rw [look,Zkd c nm fun i hi=>hl (i+1) (by simpa using hi) (by omega)];exact if_pos e
 | d :: c,nm,j+1,h,e,hl=>by
  rw [look,Zxg c nm j (by simpa using h) e fun i hi hj=>hl (i+1) (by simpa using hi) (by omega)]
  rfl
def VarI (t:Cx)(nm:ByteArray)(w:World)(H k:Nat)(F:Nat->Prop)(W:World):Prop:=
 F=(fun q=>q=H+1∨q=H+2)/\(∀ j (h:j < t.length),t.length<=j+k->t[j].1≠nm)/\Boxed W H 9 (.string nm)/\Box3 W (H+1) 38 (.int .i64 0) (.slice none 0 0) (.slice none 0 0)/\Boxed W (H+2) 80 .nilIface/\Below w.heap.size w W
theorem VarI.keep {t:Cx}{nm:ByteArray}{w A C:World}{H k D:Nat}{F:Nat->Prop}(h:VarI t nm w H k F A)(hh:Held (fun i=>i < D∨F i) A C)(hD:w.heap.size<=D)(hHD:H+2 < D):VarI t nm w H k F C:=by
 obtain ⟨rfl,h1,h2,h3,h4,h5⟩:=h;exact ⟨rfl,h1,(hh.block _ h2.lt (.inl (by omega))).trans h2,(hh.block _ h3.lt (.inl (by omega))).trans h3,(hh.block _ h4.lt (.inl (by omega))).trans h4,h5.trans (hh.below h5.size fun i hi=>.inl (by omega))⟩
def VarX (K:Nat->Prop)(t:Cx)(nm:ByteArray)(w:World)(H:Nat)(W:World):Prop:=∃ (y:Ty)(k:Int)(L:Option Addr)(n c:Nat)(A:Option Addr)(m d:Nat),
 look t nm=some y/\Box3 W (H+1) 38 (.int .i64 k) (.slice L n c) (.slice A m d)/\Boxed W (H+2) 80 .nilIface/\Below w.heap.size w W/\RTy (veil K w) y [.int .i64 k,.slice L n c,.slice A m d]
def AsgTg (v:Array Value)(q:Nat)(W:World):Prop:=∃ u cs,v=#[u,.agg cs]/\W.heap[q]?=some (.cells cs 74)
theorem AsgTg.held {v:Array Value}{q:Nat}{A C:World}(h:AsgTg v q A)(hh:Held (fun i=>q<=i) A C):AsgTg v q C:=by
 obtain ⟨u,cs,h1,h2⟩:=h;exact ⟨u,cs,h1,(hh.block q (Array.getElem?_eq_some_iff.1 h2).1 nQ).trans h2⟩
theorem Zpz (K:Nat->Prop)(t:Cx)(nm:ByteArray)(w:World)(A:Option Addr)(c:Nat)(ev:Value)(hp:RL kTg (veil K w) A t)(hl:t.length<=1048576)(he:ErrAt ev w)(hi:∃ T v,ev=.iface T v):Calls Tryz.prog 111 #[.slice A t.length c,.string nm] w (PostK K (look t nm) ev w):=by
 obtain ⟨ET,EV,rfl⟩:=hi;obtain ⟨H,hH⟩:∃ H,w.heap.size=H:=⟨_,rfl⟩;obtain ⟨W1,hW1⟩:∃ W1,((w.alloc (.cells #[.string nm] 9)).alloc (.cells #[.int .i64 0,.slice none 0 0,.slice none 0 0] 38)).alloc (.cells #[.nilIface] 80)=W1:=⟨_,rfl⟩;obtain ⟨W3,hW3⟩:∃ W3,W1.alloc (.cells #[.slice A t.length c] 45)=W3:=⟨_,rfl⟩;have hz1:W1.heap.size=H+3:=by rw [<-hW1,<-hH];simp
 have hz3:W3.heap.size=H+4:=by rw [<-hW3];simp;omega
 have hb1:Below w.heap.size w W1:=by rw [<-hW1];exact ((bQ.alloc nQ _).alloc (by simp) _).alloc (by simp;omega) _
 have hb3:Below W1.heap.size W1 W3:=by rw [<-hW3];exact bQ.alloc nQ _
 have hb13:=hb1.trans (hb3.mono hb1.size);have hxn:Boxed W1 H 9 (.string nm):=by rw [<-hW1,<-hH];exact ((Boxed.new w 9 (.string nm)).alloc _).alloc _
 have hxt:Box3 W1 (H+1) 38 (.int .i64 0) (.slice none 0 0) (.slice none 0 0):=by
  rw [<-hW1,<-hH]
  have:=(Box3.new (w.alloc (.cells #[.string nm] 9)) 38 (.int .i64 0) (.slice none 0 0) (.slice none 0 0)).alloc (.cells #[.nilIface] 80)
  simpa using this
 have hxe:Boxed W1 (H+2) 80 .nilIface:=by
  rw [<-hW1,<-hH]
  have:=Boxed.new ((w.alloc (.cells #[.string nm] 9)).alloc (.cells #[.int .i64 0,.slice none 0 0,.slice none 0 0] 38)) 80 .nilIface
  rw [World.size_alloc,World.size_alloc] at this;exact this
 have hyb:Boxed W3 (H+3) 45 (.slice A t.length c):=by rw [<-hW3,<-hz1];exact Boxed.new W1 _ _
 have hI0:VarI t nm w H 0 (fun q=>q=H+1∨q=H+2) W3:=⟨rfl,fun j h1 h2=>by omega,(hb3.block _ (by omega)).trans hxn,(hb3.block _ (by omega)).trans hxt,(hb3.block _ (by omega)).trans hxe,hb13⟩;obtain ⟨Keep,hKeep⟩:∃ Keep:Nat->Prop,Keep=fun q=>q < w.heap.size∨q=H+3:=⟨_,rfl⟩
 have hkW:∀ q,Keep q->q < W3.heap.size:=by rw [hKeep];rintro q (h|h) <;> omega
 have HG:Hid (∀ W,Below W3.heap.size W3 W->Zco Fence.wide (9 - 1) Tryz.prog 159 #[.pointer (some ⟨H+3,0,none⟩)] t.length (BRdTg t (veil K w)) (fun _=>True) Keep W):=hQ (fun W hW=>
  Zhz t (veil K w) A c hp hl (9 - 1) (H+3) (by decide) Keep (by rw [hKeep];exact .inr rfl) W (fun q hq=>by have:=hkW q hq;have:=hW.size;omega) (fun wr hr=>(Sub.veil K w).trans (Sub.below ((hb13.trans (hW.mono hb13.size)).trans (hr.below (hb13.trans (hW.mono hb13.size)).size fun i hi=>by rw [hKeep];exact .inl hi)))) ((hW.block _ (by omega)).trans hyb))
 have HP:=hQ (Zkx W1 A t.length c);have HKW:=hQ hkW;have HKE:=hQ hKeep;have HI0:=hQ hI0;have HW1:=hQ hW1;have HW3:=hQ hW3;have HZ1:=hQ hz1;have HZ3:=hQ hz3;have HH:=hQ hH;have HE:=hQ (fun W (hB:Below w.heap.size w W)=>he.keep hB);obtain ⟨M,hM⟩:∃ M,t.length=M:=⟨_,rfl⟩;rw [hM] at HP HW3 HG ⊢;have HM:=hQ hM;clear hp he hW1 hz1 hb1 hxn hxt hxe hyb hW3 hz3 hb3 hb13 hI0 hKeep hkW hH hM;refine (callsIn_wide (n:=9)).1 ?_;refine callsIn_of_wp_marks Tryz.func111 rfl trivial ?_ rfl;simp only [Tryz.ntmps111,List.size_toArray,List.length_cons,List.length_nil,Nat.reduceAdd,Nat.reduceSub,Array.replicate_succ,Array.replicate_zero,List.push_toArray,List.append_toArray,List.nil_append,List.cons_append];have hHz:=HH.out
 gi_wp2_with (refine ⟨trivial,?_⟩;gi_at_call 147;rw [HW1.out];refine (callsIn_wide.2 HP.out).mono ?_;rintro e w3 ⟨rfl,hw3⟩;rw [HW3.out] at hw3;subst hw3;rw [HZ1.out])
 have hz3:=HZ3.out;have hz1:=HZ1.out;refine Zfg (n:=9) (w:=w3) rfl (by decide) (gf:=159) (lb:=#[.pointer (some ⟨H+3,0,none⟩)]) rfl trivial (enters_of Tryz.func159 (by kernel_rfl) rfl)
  (M:=M) (Rd:=BRdTg t (veil K w)) (On:=fun _=>True) (Keep:=Keep) (fun _ _ h=>h.size) HKW.out (fun W hW hz=>HG.out W hW)
  (VarI t nm w H) (VarX K t nm w H) (fun k F A C hi hh=>hi.keep hh (by omega) (by omega)) (fun k F A hi q hq=>?bnd) (fun A C hx hh=>?keepX) _ HI0.out
  (fun v q=>{ tmps:=#[.slice A M c,.string nm,undef,.pointer (some ⟨H,0,none⟩),.pointer (some ⟨H+1,0,none⟩),.pointer (some ⟨H+2,0,none⟩),undef,.pointer (some ⟨q,0,none⟩),.slice A M c,.func (.func 159) #[] #[.pointer (some ⟨H+3,0,none⟩)],v.getD 0 undef,v.getD 1 undef,undef,undef,undef,undef,undef,undef,undef,undef],defers:=[] }) AsgTg (fun _ _ _ _ h hh=>h.held hh) ?assign ?body ?done ?stop
 case bnd=>
  obtain ⟨rfl,_,_,h1,h2,_⟩:=hi;rw [HKE.out]
  rcases hq with e|e
  ·subst e;exact ⟨by omega,h1.lt⟩
  ·subst e;exact ⟨by omega,h2.lt⟩
 case keepX=>
  obtain ⟨y,k,L,n,c',A',m,d,e1,e2,e3,e4,e5⟩:=hx;exact ⟨y,k,L,n,c',A',m,d,e1,(hh.block _ e2.lt (by omega)).trans e2,(hh.block _ e3.lt (by omega)).trans e3,e4.trans (hh.below e4.size fun i hi=>by omega),e5⟩
 case assign=>
  rintro l k v W K0 ⟨j,hjl,cx,hjk,rfl,hr⟩ hK;obtain ⟨tk,TL,TA,tl,tc,ta,td,rfl,_⟩:=Zdq hr;have hal:Below W.heap.size W (W.alloc (.cells #[.string t[j].1,.int .i64 tk,.slice TL tl tc,.slice TA ta td] 74)):=bQ.alloc nQ _;have HK:=hQ (hK _ ⟨_,_,rfl,World.alloc_heap_new W (.cells #[.string t[j].1,.int .i64 tk,.slice TL tl tc,.slice TA ta td] 74)⟩ hal);generalize t[j].1=nj at *
  clear hK hr hal
  gi_wp2
  simpa using HK.out
 case body=>
  rintro l k s F W q hk ⟨rfl,h1,h2,h3,h4,h5⟩ ⟨j,hjl,cx,hjk,rfl,hr⟩ ⟨u,cs',eq1,hc1⟩ hq1 hq2 hFq _ _;have e2:cx.toArray=cs':=by
   simp only [Array.mk.injEq,List.cons.injEq,Value.agg.injEq,and_true] at eq1;exact eq1.2
  subst e2;obtain ⟨tk,TL,TA,tl,tc,ta,td,rfl,_,hy⟩:=Zdq hr;have bx:Box4 W q 74 (.string t[j].1) (.int .i64 tk) (.slice TL tl tc) (.slice TA ta td):=hc1;have hm:=HM.out;have x0:=bx.c0;have x1:=bx.c1;have x2:=bx.c2;have x3:=bx.c3;have z0:=h2.cell;have r0:=h3.c0;have r1:=h3.c1;have r2:=h3.c2;have g0:=h3.free 0;have g1:=h3.free 1;have g2:=h3.free 2;have v0:=h4.cell;have vf:=h4.frozen;by_cases hn:t[j].1=nm
  ·have HX:Hid (Zay (fun _=>True) (VarI t nm w H) (VarX K t nm w H) k (fun q=>q=H+1∨q=H+2) W .ret { tmps:=#[],defers:=[] } ((((W.setCell ⟨H+1,0,none⟩ (.int .i64 tk)).setCell ⟨H+1,1,none⟩ (.slice TL tl tc)).setCell ⟨H+1,2,none⟩ (.slice TA ta td)).setCell ⟨H+2,0,none⟩ .nilIface)):=hQ (by
    have b1:=((h3.set0 (.int .i64 tk)).set1 (.slice TL tl tc)).set2 (.slice TA ta td);have n1:Boxed (((W.setCell ⟨H+1,0,none⟩ (.int .i64 tk)).setCell ⟨H+1,1,none⟩ (.slice TL tl tc)).setCell ⟨H+1,2,none⟩ (.slice TA ta td)) (H+2) 80 .nilIface:=(Below.heap_setCell _ _ _ _ (by show H+2≠H+1;omega)).trans ((Below.heap_setCell _ _ _ _ (by show H+2≠H+1;omega)).trans ((Below.heap_setCell _ _ _ _ (by show H+2≠H+1;omega)).trans h4));refine ⟨(((Held.set _ (fun h=>h (.inl rfl)) _).trans (Held.set _ (fun h=>h (.inl rfl)) _)).trans (Held.set _ (fun h=>h (.inl rfl)) _)).trans (Held.set _ (fun h=>h (.inr rfl)) _),t[j].2,tk,TL,tl,tc,TA,ta,td,Zxg t nm j hjl hn (fun i hi hj=>h1 i hi (by omega)),(Below.heap_setCell _ _ _ _ (by show H+1≠H+2;omega)).trans b1,n1.set _,?_,hy⟩;exact (((h5.setCell (p:=⟨H+1,0,none⟩) (by show w.heap.size<=H+1;omega) _).setCell (p:=⟨H+1,1,none⟩) (by show w.heap.size<=H+1;omega) _).setCell (p:=⟨H+1,2,none⟩) (by show w.heap.size<=H+1;omega) _).setCell (p:=⟨H+2,0,none⟩) (by show w.heap.size<=H+2;omega) _)
   rw [hn] at x0 ⊢;clear h1 h2 h3 h4 h5 hr hy hc1 bx eq1 hk hFq hn
   gi_wp2
   exact HX.out
  ·have HI:Hid (Zay (fun _=>True) (VarI t nm w H) (VarX K t nm w H) k (fun q=>q=H+1∨q=H+2) W .normal { tmps:=#[],defers:=[] } W):=hQ
    ⟨trivial,Held.refl _ _,_,fun b hb=>.inl hb,rfl,fun i hi hle=>by
     by_cases e:i=j
     ·subst e;exact hn
     ·exact h1 i hi (by omega),h2,h3,h4,h5⟩
   have f1:=Zqx hn;generalize t[j].1=nj at *
   clear h1 h2 h3 h4 h5 hr hy hc1 bx eq1 hk hFq hn
   gi_wp2
   exact HI.out
 case done=>
  rintro F W ⟨rfl,h1,h2,h3,h4,h5⟩ hK;have hN:look t nm=none:=Zkd t nm fun i hi=>h1 i hi (by have:=HM.out;omega)
  have r0:=h3.c0;have r1:=h3.c1;have r2:=h3.c2;have g0:=h3.free 0;have g1:=h3.free 1;have g2:=h3.free 2;have h4':Boxed W (H+1+1) 80 .nilIface:=h4;have v0:=h4'.cell;have vf:=h4'.frozen;have ee:=HE.out W h5;unfold ErrAt at ee;obtain ⟨U,hU⟩:∃ U,((((W.setCell ⟨H+1,0,none⟩ (.int .i64 0)).setCell ⟨H+1,1,none⟩ (.slice none 0 0)).setCell ⟨H+1,2,none⟩ (.slice none 0 0)).setCell ⟨H+1+1,0,none⟩ (.iface ET EV)).drew=U:=⟨_,rfl⟩;have hbU:Below w.heap.size w U:=by
   rw [<-hU];exact ((((h5.setCell (p:=⟨H+1,0,none⟩) (by show w.heap.size<=H+1;omega) _).setCell (p:=⟨H+1,1,none⟩) (by show w.heap.size<=H+1;omega) _).setCell (p:=⟨H+1,2,none⟩) (by show w.heap.size<=H+1;omega) _).setCell (p:=⟨H+1+1,0,none⟩) (by show w.heap.size<=H+1+1;omega) _).drew
  have hn1:Boxed (((W.setCell ⟨H+1,0,none⟩ (.int .i64 0)).setCell ⟨H+1,1,none⟩ (.slice none 0 0)).setCell ⟨H+1,2,none⟩ (.slice none 0 0)) (H+1+1) 80 .nilIface:=(Below.heap_setCell _ _ _ _ (by show H+1+1≠H+1;omega)).trans ((Below.heap_setCell _ _ _ _ (by show H+1+1≠H+1;omega)).trans ((Below.heap_setCell _ _ _ _ (by show H+1+1≠H+1;omega)).trans h4'));have u3:Box3 U (H+1) 38 (.int .i64 0) (.slice none 0 0) (.slice none 0 0):=by rw [<-hU];exact (Below.heap_setCell _ _ _ _ (by show H+1≠H+1+1;omega)).trans (((h3.set0 (.int .i64 0)).set1 (.slice none 0 0)).set2 (.slice none 0 0))
  have u4:Boxed U (H+1+1) 80 (.iface ET EV):=by rw [<-hU];exact hn1.set _
  have uD:U.heap[w3.heap.size]?=some (.deferred (some [])):=by
   rw [<-hU];exact (Below.heap_setCell _ _ _ _ (by show w3.heap.size≠H+1+1;omega)).trans ((Below.heap_setCell _ _ _ _ (by show w3.heap.size≠H+1;omega)).trans ((Below.heap_setCell _ _ _ _ (by show w3.heap.size≠H+1;omega)).trans ((Below.heap_setCell _ _ _ _ (by show w3.heap.size≠H+1;omega)).trans hK)))
  have bx:Box3 (U.putObj w3.heap.size (.deferred none)) (H+1) 38 (.int .i64 0) (.slice none 0 0) (.slice none 0 0):=(World.putObj_heap_other (by omega)).trans u3;have be:Boxed (U.putObj w3.heap.size (.deferred none)) (H+1+1) 80 (.iface ET EV):=(World.putObj_heap_other (by omega)).trans u4;have hbf:=hbU.trans (Zbr (o:=.deferred none) U (show w.heap.size<=w3.heap.size by omega));have HF:Hid (PostK K (look t nm) (.iface ET EV) w (.returned (.tuple #[.agg #[.int .i64 0,.slice none 0 0,.slice none 0 0],.iface ET EV])) (U.putObj w3.heap.size (.deferred none))):=hQ (by
   rw [hN];exact ⟨hbf,rfl⟩)
  have HA:=hQ bx.c0;have HB:=hQ bx.c1;have HC:=hQ bx.c2;have HDD:=hQ be.cell;have HD:=hQ uD;have HU:=hQ hU;have ne1:H+1+1≠H+1:=by omega
  have ne2:H+1≠H+1+1:=by omega
  have v1:((((W.setCell ⟨H+1,0,none⟩ (.int .i64 0)).setCell ⟨H+1,1,none⟩ (.slice none 0 0)).setCell ⟨H+1,2,none⟩ (.slice none 0 0)).drew).cell? ⟨H+1+1,0,none⟩=some .nilIface:=hn1.cell;have v2:((((W.setCell ⟨H+1,0,none⟩ (.int .i64 0)).setCell ⟨H+1,1,none⟩ (.slice none 0 0)).setCell ⟨H+1,2,none⟩ (.slice none 0 0)).drew).frozen? ⟨H+1+1,0,none⟩=false:=hn1.frozen;clear h1 h2 h3 h4 h4' h5 hK hN hU hbU hn1 u3 u4 uD bx be hbf
  gi_wp2
  gi_region
  all_goals (
   rw [HU.out]
   gi_wp2
   refine ⟨by simp,.inl ⟨_,_,rfl,run_takeDeferred HD.out,?_⟩⟩;have tt0:=HA.out;have tt1:=HB.out;have tt2:=HC.out;have tt3:=HDD.out;refine ⟨.tuple #[.agg #[.int .i64 0,.slice none 0 0,.slice none 0 0],.iface ET EV],?_,HF.out⟩;simp [results,Tryz.f111,go_sem,tt0,tt1,tt2,tt3])
 case stop=>
  rintro W ⟨y,k,L,n,c',A',m,d,e1,e2,e3,e4,e5⟩ hK;have bx:Box3 (W.putObj w3.heap.size (.deferred none)) (H+1) 38 (.int .i64 k) (.slice L n c') (.slice A' m d):=(World.putObj_heap_other (by omega)).trans e2;have be:Boxed (W.putObj w3.heap.size (.deferred none)) (H+2) 80 .nilIface:=(World.putObj_heap_other (by omega)).trans e3;have hbf:=e4.trans (Zbr (o:=.deferred none) W (show w.heap.size<=w3.heap.size by omega));have HF:Hid (PostK K (look t nm) (.iface ET EV) w (.returned (.tuple #[.agg #[.int .i64 k,.slice L n c',.slice A' m d],.nilIface])) (W.putObj w3.heap.size (.deferred none))):=hQ (by
   rw [e1];exact ⟨hbf,k,L,n,c',A',m,d,rfl,e5.sub (Sub.held (Held.of_below hbf fun i hi _=>hi) fun _ _ h=>h)⟩)
  have HA:=hQ bx.c0;have HB:=hQ bx.c1;have HC:=hQ bx.c2;have HD:=hQ be.cell;clear bx be hbf e1 e2 e3 e4 e5
  gi_wp2
  refine ⟨by simp,.inl ⟨_,_,rfl,run_takeDeferred hK,?_⟩⟩;have tt0:=HA.out;have tt1:=HB.out;have tt2:=HC.out;have tt3:=HD.out;refine ⟨.tuple #[.agg #[.int .i64 k,.slice L n c',.slice A' m d],.nilIface],?_,HF.out⟩;simp [results,Tryz.f111,go_sem,tt0,tt1,tt2,tt3]
end Go.Proofs.YtlcedleebbgebaaGreatDoor
namespace Go.Proofs.YtlcedleebbgebaaGreatDoor
open Go.RowKit
theorem Zzy (q o:Int)(c1 c2:Value)(P:Nat)(w:World)(hp:w.cell? ⟨P,0,none⟩=some (.int .i64 o)):Calls Tryz.prog 148 #[.agg #[.int .i64 q,c1,c2],.pointer (some ⟨P,0,none⟩)] w (Truth (decide (q=o)) w):=by
 have hb:Below w.heap.size w (w.alloc (.cells #[.int .i64 q,c1,c2] 38)):=bQ.alloc nQ _;have hp2:=uQ hb hp;have HR:Hid (∀ b,b=decide (q=o)->Truth (decide (q=o)) w (.returned (.bool b)) (w.alloc (.cells #[.int .i64 q,c1,c2] 38))):=hQ (fun b e=>⟨by rw [e],hb⟩);clear hb;go_enter Tryz.func148,Tryz.ntmps148;go_wp2_with fail;go_ret;exact HR.out _ rfl
theorem Zcq (ts:List Ty)(o:Int)(P:Nat)(w:World)(A:Option Addr)(d:Nat)(hk:RKids w A ts)(hl:ts.length<=9223372036854775807)(hp:w.cell? ⟨P,0,none⟩=some (.int .i64 o)) :
  Calls Tryz.prog 138 #[.slice A ts.length d,.func (.func 148) #[] #[.pointer (some ⟨P,0,none⟩)]] w (Truth (ts.all fun t=>decide (t.top.kind=o)) w):=by
 have HP:=hQ hk;have HPP:=hQ hp;clear hk hp;go_enter Tryz.func138,Tryz.ntmps138;go_wp2_with fail;go_loopw [9] (fun i wr=>∃ k:Nat,k<=ts.length/\i=.int .i64 k/\Zba ts o k/\Below w.heap.size w wr) (fun i _=>ts.length - (intOf i).toNat)
 case atStart=>exact ⟨0,Nat.zero_le _,rfl,by unfold Zba;simp,Below.refl _ _⟩
 case round=>
  obtain ⟨k,hk,rfl,hst,hb⟩:=hrel;have HB:=hQ hb;by_cases hlt:k < ts.length
  ·obtain ⟨ad,p,c0,c1,c2,rfl,hpe,hr,q0,q1,q2⟩:=Zal HP.out hb hlt
   obtain ⟨a,ks,hnode⟩:∃ a ks,ts[k]=.node a ks:=⟨_,_,(match ts[k] with|.node a ks=>rfl:ts[k]=.node ts[k].top ts[k].kids)⟩;have hkk:ts[k].top.kind=a.kind:=by rw [hnode];rfl
   have hr2:=hr;rw [hnode] at hr2;obtain ⟨L9,n9,A9,d9,he,_⟩:=hr2.out;simp only [List.cons.injEq,and_true] at he;obtain ⟨rfl,rfl,rfl⟩:=he;obtain ⟨W5,hW5⟩:∃ W5,wr.alloc (.cells #[.int .i64 a.kind,.slice L9 a.labels.length n9,.slice A9 ks.length d9] 38)=W5:=⟨_,rfl⟩;have hb5:Below wr.heap.size wr W5:=by rw [<-hW5];exact bQ.alloc nQ _
   have hx5:=Box3.new wr 38 (.int .i64 a.kind) (.slice L9 a.labels.length n9) (.slice A9 ks.length d9);rw [hW5] at hx5;have HB5:=hQ (HB.out.trans (hb5.mono HB.out.size));have HC:=hQ (Zzy a.kind o (.slice L9 a.labels.length n9) (.slice A9 ks.length d9) P W5 ((HB5.out.cell (World.block_lt_of_cell? _ _ HPP.out)).trans HPP.out));have HW5:=hQ hW5;have y0:=hx5.c0;have y1:=hx5.c1;have y2:=hx5.c2;have HS:Hid (a.kind=o->Zba ts o (k+1)):=hQ (fun e=>by
    unfold Zba at *
    rw [List.take_succ_eq_append_getElem hlt,List.all_append,hst];simp [hkk,e])
   have HN:Hid (a.kind≠o->(ts.all fun t=>decide (t.top.kind=o))=false):=hQ (fun e=>by
    rw [<-Bool.not_eq_true,List.all_eq_true]
    intro h2
    exact e (by simpa [hkk] using h2 _ (List.getElem_mem hlt)))
   obtain ⟨v,hv⟩:∃ v,decide (a.kind=o)=v:=⟨_,rfl⟩;rw [hv] at HC;have HVV:=hQ hv;generalize a.kind=q at *
   generalize a.labels.length=q3 at *
   generalize ks.length=q4 at *
   clear hr hr2 hnode hkk hb hb5 hW5 hx5 hv hst hk;go_wp2_with fail;rw [HW5.out];go_wp2_with fail;refine HC.out.mono ?_;rintro e w6 ⟨rfl,hb6⟩;have HB6:=hQ (HB5.out.trans (hb6.mono HB5.out.size));clear hb6 y0 y1 y2 HC;cases v with
   | false=>
    have HF:Hid (Truth (ts.all fun t=>decide (t.top.kind=o)) w (.returned (.bool false)) w6):=by rw [HN.out (by simpa using HVV.out)];exact ⟨rfl,HB6.out⟩
    go_wp2_with fail
    go_ret
    exact HF.out
   | true=>
    have HT:=hQ (HS.out (by simpa using HVV.out));clear HS HN HVV;go_wp2_with fail;go_roundw
    case rel=>exact ⟨k+1,hlt,by go_num,HT.out,HB6.out⟩
    case measure=>simp [intOf];omega
  ·have he:k=ts.length:=by omega
   have HF:Hid (Truth (ts.all fun t=>decide (t.top.kind=o)) w (.returned (.bool true)) wr):=by
    have h1:=hst;unfold Zba at h1;rw [he,List.take_length] at h1;rw [h1];exact ⟨rfl,HB.out⟩
   clear he hb hst;go_wp2_with fail;go_ret;exact HF.out
theorem Zgb (w:World)(q:Int)(h1:-9223372036854775808<=q)(h2:q<=9223372036854775807):RTy w (.node ⟨q,[]⟩ []) [.int .i64 q,.slice none 0 0,.slice none 0 0]:=
 Zhp (a:=⟨q,[]⟩) (ks:=[]) (fun j u hj=>by simp at hj) ⟨h1,h2,by simp,by simp⟩ (by simp) (by simp) ⟨fun _=>[],fun j t hj=>by simp at hj⟩
theorem Zga {w:World}{q:Int}{cs:List Value}(h:RTy w (.node ⟨q,[]⟩ []) cs)(U:World):RTy U (.node ⟨q,[]⟩ []) cs:=by
 obtain ⟨L,c,A,d,rfl,_,h1,h2,h3,h4,h5,_⟩:=h.out;have h6:=RTy.cap h;exact Zhp (a:=⟨q,[]⟩) (ks:=[]) (fun j u hj=>by simp at hj) ⟨h1,h2,h3,h4⟩ (by simp) (by simp) ⟨fun _=>[],fun j t hj=>by simp at hj⟩
theorem Ztm (nm:ByteArray)(ts:List Ty)(A:Option Addr)(d:Nat)(w:World)(ev:Value)(hk:RKids w A ts)(hl:ts.length<=9223372036854775807)(ha:arB nm≠0)(he:ErrAt ev w):Calls Tryz.prog 112 #[.string nm,.slice A ts.length d] w (PostE (opT nm ts) ev w):=by
 obtain ⟨H,hH⟩:∃ H,w.heap.size=H:=⟨_,rfl⟩;have HH:=hQ hH;have HK:=hQ hk;have HL:=hQ hl;have HE:=hQ he;clear hk hl he;cases e0:(nm.toList == [43]) with
 | true=>
  have d38:(nm.toList == [38])=false:=by have:=eq_of_beq e0;rw [this];rfl
  have d124:(nm.toList == [124])=false:=by have:=eq_of_beq e0;rw [this];rfl
  have d33:(nm.toList == [33])=false:=by have:=eq_of_beq e0;rw [this];rfl
  have d45:(nm.toList == [45])=false:=by have:=eq_of_beq e0;rw [this];rfl
  have HOP:Hid (opT nm ts=ifAny (ts.all fun t=>decide (t.top.kind=1)) tyInt):=hQ (by
   have hwn:Zcu nm=1:=by unfold Zcu;simp only [d38,d124,d33,Bool.false_eq_true,if_false]
   have hgn:Zaq nm=tyInt:=by unfold Zaq;simp only [e0,if_true]
   unfold opT ifAny;rw [hwn,hgn])
  have hbW:Below w.heap.size w ((w.alloc (.cells #[.int .i64 0,.slice none 0 0,.slice none 0 0] 38)).alloc (.cells #[.int .i64 1] 3)):=(bQ.alloc nQ _).alloc (by simp) _;have hcell:((w.alloc (.cells #[.int .i64 0,.slice none 0 0,.slice none 0 0] 38)).alloc (.cells #[.int .i64 1] 3)).cell? ⟨H+1,0,none⟩=some (.int .i64 1):=by
   rw [<-HH.out]
   have:=(Box1.new (w.alloc (.cells #[.int .i64 0,.slice none 0 0,.slice none 0 0] 38)) 3 (.int .i64 1)).c0
   simpa using this
  have hbox:Box3 ((w.alloc (.cells #[.int .i64 0,.slice none 0 0,.slice none 0 0] 38)).alloc (.cells #[.int .i64 1] 3)) H 38 (.int .i64 0) (.slice none 0 0) (.slice none 0 0):=by rw [<-HH.out];exact (Box3.new w _ _ _ _).alloc _
  have HEV:=hQ (Zcq ts 1 (H+1) ((w.alloc (.cells #[.int .i64 0,.slice none 0 0,.slice none 0 0] 38)).alloc (.cells #[.int .i64 1] 3)) A d (HK.out.keep hbW) HL.out hcell);have HBW:=hQ hbW;have BX:=hQ hbox;clear hbW hcell hbox;go_enter Tryz.func112,Tryz.ntmps112;go_wp2_with fail;refine HEV.out.mono ?_;rintro e w2 ⟨rfl,hb2⟩;have HB2:=hQ (HBW.out.trans (hb2.mono HBW.out.size));have BX2:=hQ (BX.out.under hb2 BX.out.lt);have HT:=hQ (Zcw tyInt (ts.all fun t=>decide (t.top.kind=1)) 1 none none 0 0 0 0 w2 ev (fun _=>Zgb w2 1 (by decide) (by decide)) (HE.out.keep HB2.out));rw [<-HOP.out] at HT;generalize (ts.all fun t=>decide (t.top.kind=1))=al at *
  clear hb2;go_wp2_with fail;refine HT.out.mono ?_;rintro e w3 ⟨hb3,hpost⟩;have HB3:=hQ (HB2.out.trans (hb3.mono HB2.out.size));have BX3:=hQ (BX2.out.under hb3 BX2.out.lt);rw [HOP.out] at hpost;have r0:=BX3.out.c0;have r1:=BX3.out.c1;have r2:=BX3.out.c2;have s0:=BX3.out.free 0;have s1:=BX3.out.free 1;have s2:=BX3.out.free 2;clear hb3 HT;cases al
  ·have he:e=.returned (.tuple #[.agg #[.int .i64 0,.slice none 0 0,.slice none 0 0],ev]):=hpost
   subst he
   skip
   go_wp2_with fail
   generalize hU:((w3.setCell ⟨H,0,none⟩ (.int .i64 0)).setCell ⟨H,1,none⟩ (.slice none 0 0)).setCell ⟨H,2,none⟩ (.slice none 0 0)=U;have hgU:w3.grownBy U (some H):=by rw [<-hU];exact Zaa (Zaa (Zaa (gQ) _) _) _
   have u1:Box3 U H 38 (.int .i64 0) (.slice none 0 0) (.slice none 0 0):=by
    rw [<-hU];exact ((BX3.out.set0 _).set1 _).set2 _
   have hbU:Below w.heap.size w U:=HB3.out.grown hgU HB3.out.size (fun k hk=>by injection hk with hk;have:=HH.out;omega);have HRR:Hid (PostE (opT nm ts) ev w (.returned (.tuple #[.agg #[.int .i64 0,.slice none 0 0,.slice none 0 0],ev])) U):=hQ (by
    rw [HOP.out];exact ⟨hbU,rfl⟩)
   have tt0:=u1.c0;have tt1:=u1.c1;have tt2:=u1.c2;clear hU hgU u1 hbU r0 r1 r2 s0 s1 s2;exact bodyPost_ret (v:=.tuple #[.agg #[.int .i64 0,.slice none 0 0,.slice none 0 0],ev]) (by simp [results,Tryz.results112,go_sem,tt0,tt1,tt2]) rfl HRR.out
  ·obtain ⟨k4,L4,n4,c4,A4,m4,d4,rfl,hr4⟩:=hpost
   have HR4:=hQ (Zga hr4);clear hr4;go_wp2_with fail;generalize hU:((w3.setCell ⟨H,0,none⟩ (.int .i64 k4)).setCell ⟨H,1,none⟩ (.slice L4 n4 c4)).setCell ⟨H,2,none⟩ (.slice A4 m4 d4)=U;have hgU:w3.grownBy U (some H):=by rw [<-hU];exact Zaa (Zaa (Zaa (gQ) _) _) _
   have u1:Box3 U H 38 (.int .i64 k4) (.slice L4 n4 c4) (.slice A4 m4 d4):=by
    rw [<-hU];exact ((BX3.out.set0 _).set1 _).set2 _
   have hbU:Below w.heap.size w U:=HB3.out.grown hgU HB3.out.size (fun k hk=>by injection hk with hk;have:=HH.out;omega);have HRR:Hid (PostE (opT nm ts) ev w (.returned (.tuple #[.agg #[.int .i64 k4,.slice L4 n4 c4,.slice A4 m4 d4],.nilIface])) U):=hQ (by
    rw [HOP.out];exact ⟨hbU,k4,L4,n4,c4,A4,m4,d4,rfl,HR4.out U⟩)
   have tt0:=u1.c0;have tt1:=u1.c1;have tt2:=u1.c2;clear hU hgU u1 hbU r0 r1 r2 s0 s1 s2;exact bodyPost_ret (v:=.tuple #[.agg #[.int .i64 k4,.slice L4 n4 c4,.slice A4 m4 d4],.nilIface]) (by simp [results,Tryz.results112,go_sem,tt0,tt1,tt2]) rfl HRR.out
 | false=>
  cases e1:(nm.toList == [45]) with
  | true=>
   have d38:(nm.toList == [38])=false:=by have:=eq_of_beq e1;rw [this];rfl
   have d124:(nm.toList == [124])=false:=by have:=eq_of_beq e1;rw [this];rfl
   have d33:(nm.toList == [33])=false:=by have:=eq_of_beq e1;rw [this];rfl
   have d43:(nm.toList == [43])=false:=by have:=eq_of_beq e1;rw [this];rfl
   have HOP:Hid (opT nm ts=ifAny (ts.all fun t=>decide (t.top.kind=1)) tyInt):=hQ (by
    have hwn:Zcu nm=1:=by unfold Zcu;simp only [d38,d124,d33,Bool.false_eq_true,if_false]
    have hgn:Zaq nm=tyInt:=by unfold Zaq;simp only [d43,e1,if_true,Bool.false_eq_true,if_false]
    unfold opT ifAny;rw [hwn,hgn])
   have hbW:Below w.heap.size w ((w.alloc (.cells #[.int .i64 0,.slice none 0 0,.slice none 0 0] 38)).alloc (.cells #[.int .i64 1] 3)):=(bQ.alloc nQ _).alloc (by simp) _;have hcell:((w.alloc (.cells #[.int .i64 0,.slice none 0 0,.slice none 0 0] 38)).alloc (.cells #[.int .i64 1] 3)).cell? ⟨H+1,0,none⟩=some (.int .i64 1):=by
    rw [<-HH.out]
    have:=(Box1.new (w.alloc (.cells #[.int .i64 0,.slice none 0 0,.slice none 0 0] 38)) 3 (.int .i64 1)).c0
    simpa using this
   have hbox:Box3 ((w.alloc (.cells #[.int .i64 0,.slice none 0 0,.slice none 0 0] 38)).alloc (.cells #[.int .i64 1] 3)) H 38 (.int .i64 0) (.slice none 0 0) (.slice none 0 0):=by rw [<-HH.out];exact (Box3.new w _ _ _ _).alloc _
   have HEV:=hQ (Zcq ts 1 (H+1) ((w.alloc (.cells #[.int .i64 0,.slice none 0 0,.slice none 0 0] 38)).alloc (.cells #[.int .i64 1] 3)) A d (HK.out.keep hbW) HL.out hcell);have HBW:=hQ hbW;have BX:=hQ hbox;clear hbW hcell hbox;go_enter Tryz.func112,Tryz.ntmps112;go_wp2_with fail;refine HEV.out.mono ?_;rintro e w2 ⟨rfl,hb2⟩;have HB2:=hQ (HBW.out.trans (hb2.mono HBW.out.size));have BX2:=hQ (BX.out.under hb2 BX.out.lt);have HT:=hQ (Zcw tyInt (ts.all fun t=>decide (t.top.kind=1)) 1 none none 0 0 0 0 w2 ev (fun _=>Zgb w2 1 (by decide) (by decide)) (HE.out.keep HB2.out));rw [<-HOP.out] at HT;generalize (ts.all fun t=>decide (t.top.kind=1))=al at *
   clear hb2;go_wp2_with fail;refine HT.out.mono ?_;rintro e w3 ⟨hb3,hpost⟩;have HB3:=hQ (HB2.out.trans (hb3.mono HB2.out.size));have BX3:=hQ (BX2.out.under hb3 BX2.out.lt);rw [HOP.out] at hpost;have r0:=BX3.out.c0;have r1:=BX3.out.c1;have r2:=BX3.out.c2;have s0:=BX3.out.free 0;have s1:=BX3.out.free 1;have s2:=BX3.out.free 2;clear hb3 HT;cases al
   ·have he:e=.returned (.tuple #[.agg #[.int .i64 0,.slice none 0 0,.slice none 0 0],ev]):=hpost
    subst he
    skip
    go_wp2_with fail
    generalize hU:((w3.setCell ⟨H,0,none⟩ (.int .i64 0)).setCell ⟨H,1,none⟩ (.slice none 0 0)).setCell ⟨H,2,none⟩ (.slice none 0 0)=U;have hgU:w3.grownBy U (some H):=by rw [<-hU];exact Zaa (Zaa (Zaa (gQ) _) _) _
    have u1:Box3 U H 38 (.int .i64 0) (.slice none 0 0) (.slice none 0 0):=by
     rw [<-hU];exact ((BX3.out.set0 _).set1 _).set2 _
    have hbU:Below w.heap.size w U:=HB3.out.grown hgU HB3.out.size (fun k hk=>by injection hk with hk;have:=HH.out;omega);have HRR:Hid (PostE (opT nm ts) ev w (.returned (.tuple #[.agg #[.int .i64 0,.slice none 0 0,.slice none 0 0],ev])) U):=hQ (by
     rw [HOP.out];exact ⟨hbU,rfl⟩)
    have tt0:=u1.c0;have tt1:=u1.c1;have tt2:=u1.c2;clear hU hgU u1 hbU r0 r1 r2 s0 s1 s2;exact bodyPost_ret (v:=.tuple #[.agg #[.int .i64 0,.slice none 0 0,.slice none 0 0],ev]) (by simp [results,Tryz.results112,go_sem,tt0,tt1,tt2]) rfl HRR.out
   ·obtain ⟨k4,L4,n4,c4,A4,m4,d4,rfl,hr4⟩:=hpost
    have HR4:=hQ (Zga hr4);clear hr4;go_wp2_with fail;generalize hU:((w3.setCell ⟨H,0,none⟩ (.int .i64 k4)).setCell ⟨H,1,none⟩ (.slice L4 n4 c4)).setCell ⟨H,2,none⟩ (.slice A4 m4 d4)=U;have hgU:w3.grownBy U (some H):=by rw [<-hU];exact Zaa (Zaa (Zaa (gQ) _) _) _
    have u1:Box3 U H 38 (.int .i64 k4) (.slice L4 n4 c4) (.slice A4 m4 d4):=by
     rw [<-hU];exact ((BX3.out.set0 _).set1 _).set2 _
    have hbU:Below w.heap.size w U:=HB3.out.grown hgU HB3.out.size (fun k hk=>by injection hk with hk;have:=HH.out;omega);have HRR:Hid (PostE (opT nm ts) ev w (.returned (.tuple #[.agg #[.int .i64 k4,.slice L4 n4 c4,.slice A4 m4 d4],.nilIface])) U):=hQ (by
     rw [HOP.out];exact ⟨hbU,k4,L4,n4,c4,A4,m4,d4,rfl,HR4.out U⟩)
    have tt0:=u1.c0;have tt1:=u1.c1;have tt2:=u1.c2;clear hU hgU u1 hbU r0 r1 r2 s0 s1 s2;exact bodyPost_ret (v:=.tuple #[.agg #[.int .i64 k4,.slice L4 n4 c4,.slice A4 m4 d4],.nilIface]) (by simp [results,Tryz.results112,go_sem,tt0,tt1,tt2]) rfl HRR.out
  | false=>
   cases e2:(nm.toList == [61]) with
   | true=>
    have d38:(nm.toList == [38])=false:=by have:=eq_of_beq e2;rw [this];rfl
    have d124:(nm.toList == [124])=false:=by have:=eq_of_beq e2;rw [this];rfl
    have d33:(nm.toList == [33])=false:=by have:=eq_of_beq e2;rw [this];rfl
    have d43:(nm.toList == [43])=false:=by have:=eq_of_beq e2;rw [this];rfl
    have d45:(nm.toList == [45])=false:=by have:=eq_of_beq e2;rw [this];rfl
    have HOP:Hid (opT nm ts=ifAny (ts.all fun t=>decide (t.top.kind=1)) Zah):=hQ (by
     have hwn:Zcu nm=1:=by unfold Zcu;simp only [d38,d124,d33,Bool.false_eq_true,if_false]
     have hgn:Zaq nm=Zah:=by unfold Zaq;simp only [d43,d45,Bool.false_eq_true,if_false]
     unfold opT ifAny;rw [hwn,hgn])
    have hbW:Below w.heap.size w ((w.alloc (.cells #[.int .i64 0,.slice none 0 0,.slice none 0 0] 38)).alloc (.cells #[.int .i64 1] 3)):=(bQ.alloc nQ _).alloc (by simp) _;have hcell:((w.alloc (.cells #[.int .i64 0,.slice none 0 0,.slice none 0 0] 38)).alloc (.cells #[.int .i64 1] 3)).cell? ⟨H+1,0,none⟩=some (.int .i64 1):=by
     rw [<-HH.out]
     have:=(Box1.new (w.alloc (.cells #[.int .i64 0,.slice none 0 0,.slice none 0 0] 38)) 3 (.int .i64 1)).c0
     simpa using this
    have hbox:Box3 ((w.alloc (.cells #[.int .i64 0,.slice none 0 0,.slice none 0 0] 38)).alloc (.cells #[.int .i64 1] 3)) H 38 (.int .i64 0) (.slice none 0 0) (.slice none 0 0):=by rw [<-HH.out];exact (Box3.new w _ _ _ _).alloc _
    have HEV:=hQ (Zcq ts 1 (H+1) ((w.alloc (.cells #[.int .i64 0,.slice none 0 0,.slice none 0 0] 38)).alloc (.cells #[.int .i64 1] 3)) A d (HK.out.keep hbW) HL.out hcell);have HBW:=hQ hbW;have BX:=hQ hbox;clear hbW hcell hbox;go_enter Tryz.func112,Tryz.ntmps112;go_wp2_with fail;refine HEV.out.mono ?_;rintro e w2 ⟨rfl,hb2⟩;have HB2:=hQ (HBW.out.trans (hb2.mono HBW.out.size));have BX2:=hQ (BX.out.under hb2 BX.out.lt);have HT:=hQ (Zcw Zah (ts.all fun t=>decide (t.top.kind=1)) 2 none none 0 0 0 0 w2 ev (fun _=>Zgb w2 2 (by decide) (by decide)) (HE.out.keep HB2.out));rw [<-HOP.out] at HT;generalize (ts.all fun t=>decide (t.top.kind=1))=al at *
    clear hb2;go_wp2_with fail;refine HT.out.mono ?_;rintro e w3 ⟨hb3,hpost⟩;have HB3:=hQ (HB2.out.trans (hb3.mono HB2.out.size));have BX3:=hQ (BX2.out.under hb3 BX2.out.lt);rw [HOP.out] at hpost;have r0:=BX3.out.c0;have r1:=BX3.out.c1;have r2:=BX3.out.c2;have s0:=BX3.out.free 0;have s1:=BX3.out.free 1;have s2:=BX3.out.free 2;clear hb3 HT;cases al
    ·have he:e=.returned (.tuple #[.agg #[.int .i64 0,.slice none 0 0,.slice none 0 0],ev]):=hpost
     subst he
     skip
     go_wp2_with fail
     generalize hU:((w3.setCell ⟨H,0,none⟩ (.int .i64 0)).setCell ⟨H,1,none⟩ (.slice none 0 0)).setCell ⟨H,2,none⟩ (.slice none 0 0)=U;have hgU:w3.grownBy U (some H):=by rw [<-hU];exact Zaa (Zaa (Zaa (gQ) _) _) _
     have u1:Box3 U H 38 (.int .i64 0) (.slice none 0 0) (.slice none 0 0):=by
      rw [<-hU];exact ((BX3.out.set0 _).set1 _).set2 _
     have hbU:Below w.heap.size w U:=HB3.out.grown hgU HB3.out.size (fun k hk=>by injection hk with hk;have:=HH.out;omega);have HRR:Hid (PostE (opT nm ts) ev w (.returned (.tuple #[.agg #[.int .i64 0,.slice none 0 0,.slice none 0 0],ev])) U):=hQ (by
      rw [HOP.out];exact ⟨hbU,rfl⟩)
     have tt0:=u1.c0;have tt1:=u1.c1;have tt2:=u1.c2;clear hU hgU u1 hbU r0 r1 r2 s0 s1 s2;exact bodyPost_ret (v:=.tuple #[.agg #[.int .i64 0,.slice none 0 0,.slice none 0 0],ev]) (by simp [results,Tryz.results112,go_sem,tt0,tt1,tt2]) rfl HRR.out
    ·obtain ⟨k4,L4,n4,c4,A4,m4,d4,rfl,hr4⟩:=hpost
     have HR4:=hQ (Zga hr4);clear hr4;go_wp2_with fail;generalize hU:((w3.setCell ⟨H,0,none⟩ (.int .i64 k4)).setCell ⟨H,1,none⟩ (.slice L4 n4 c4)).setCell ⟨H,2,none⟩ (.slice A4 m4 d4)=U;have hgU:w3.grownBy U (some H):=by rw [<-hU];exact Zaa (Zaa (Zaa (gQ) _) _) _
     have u1:Box3 U H 38 (.int .i64 k4) (.slice L4 n4 c4) (.slice A4 m4 d4):=by
      rw [<-hU];exact ((BX3.out.set0 _).set1 _).set2 _
     have hbU:Below w.heap.size w U:=HB3.out.grown hgU HB3.out.size (fun k hk=>by injection hk with hk;have:=HH.out;omega);have HRR:Hid (PostE (opT nm ts) ev w (.returned (.tuple #[.agg #[.int .i64 k4,.slice L4 n4 c4,.slice A4 m4 d4],.nilIface])) U):=hQ (by
      rw [HOP.out];exact ⟨hbU,k4,L4,n4,c4,A4,m4,d4,rfl,HR4.out U⟩)
     have tt0:=u1.c0;have tt1:=u1.c1;have tt2:=u1.c2;clear hU hgU u1 hbU r0 r1 r2 s0 s1 s2;exact bodyPost_ret (v:=.tuple #[.agg #[.int .i64 k4,.slice L4 n4 c4,.slice A4 m4 d4],.nilIface]) (by simp [results,Tryz.results112,go_sem,tt0,tt1,tt2]) rfl HRR.out
   | false=>
    cases e3:(nm.toList == [60]) with
    | true=>
     have d38:(nm.toList == [38])=false:=by have:=eq_of_beq e3;rw [this];rfl
     have d124:(nm.toList == [124])=false:=by have:=eq_of_beq e3;rw [this];rfl
     have d33:(nm.toList == [33])=false:=by have:=eq_of_beq e3;rw [this];rfl
     have d43:(nm.toList == [43])=false:=by have:=eq_of_beq e3;rw [this];rfl
     have d45:(nm.toList == [45])=false:=by have:=eq_of_beq e3;rw [this];rfl
     have HOP:Hid (opT nm ts=ifAny (ts.all fun t=>decide (t.top.kind=1)) Zah):=hQ (by
      have hwn:Zcu nm=1:=by unfold Zcu;simp only [d38,d124,d33,Bool.false_eq_true,if_false]
      have hgn:Zaq nm=Zah:=by unfold Zaq;simp only [d43,d45,Bool.false_eq_true,if_false]
      unfold opT ifAny;rw [hwn,hgn])
     have hbW:Below w.heap.size w ((w.alloc (.cells #[.int .i64 0,.slice none 0 0,.slice none 0 0] 38)).alloc (.cells #[.int .i64 1] 3)):=(bQ.alloc nQ _).alloc (by simp) _;have hcell:((w.alloc (.cells #[.int .i64 0,.slice none 0 0,.slice none 0 0] 38)).alloc (.cells #[.int .i64 1] 3)).cell? ⟨H+1,0,none⟩=some (.int .i64 1):=by
      rw [<-HH.out]
      have:=(Box1.new (w.alloc (.cells #[.int .i64 0,.slice none 0 0,.slice none 0 0] 38)) 3 (.int .i64 1)).c0
      simpa using this
     have hbox:Box3 ((w.alloc (.cells #[.int .i64 0,.slice none 0 0,.slice none 0 0] 38)).alloc (.cells #[.int .i64 1] 3)) H 38 (.int .i64 0) (.slice none 0 0) (.slice none 0 0):=by rw [<-HH.out];exact (Box3.new w _ _ _ _).alloc _
     have HEV:=hQ (Zcq ts 1 (H+1) ((w.alloc (.cells #[.int .i64 0,.slice none 0 0,.slice none 0 0] 38)).alloc (.cells #[.int .i64 1] 3)) A d (HK.out.keep hbW) HL.out hcell);have HBW:=hQ hbW;have BX:=hQ hbox;clear hbW hcell hbox;go_enter Tryz.func112,Tryz.ntmps112;go_wp2_with fail;refine HEV.out.mono ?_;rintro e w2 ⟨rfl,hb2⟩;have HB2:=hQ (HBW.out.trans (hb2.mono HBW.out.size));have BX2:=hQ (BX.out.under hb2 BX.out.lt);have HT:=hQ (Zcw Zah (ts.all fun t=>decide (t.top.kind=1)) 2 none none 0 0 0 0 w2 ev (fun _=>Zgb w2 2 (by decide) (by decide)) (HE.out.keep HB2.out));rw [<-HOP.out] at HT;generalize (ts.all fun t=>decide (t.top.kind=1))=al at *
     clear hb2;go_wp2_with fail;refine HT.out.mono ?_;rintro e w3 ⟨hb3,hpost⟩;have HB3:=hQ (HB2.out.trans (hb3.mono HB2.out.size));have BX3:=hQ (BX2.out.under hb3 BX2.out.lt);rw [HOP.out] at hpost;have r0:=BX3.out.c0;have r1:=BX3.out.c1;have r2:=BX3.out.c2;have s0:=BX3.out.free 0;have s1:=BX3.out.free 1;have s2:=BX3.out.free 2;clear hb3 HT;cases al
     ·have he:e=.returned (.tuple #[.agg #[.int .i64 0,.slice none 0 0,.slice none 0 0],ev]):=hpost
      subst he
      skip
      go_wp2_with fail
      generalize hU:((w3.setCell ⟨H,0,none⟩ (.int .i64 0)).setCell ⟨H,1,none⟩ (.slice none 0 0)).setCell ⟨H,2,none⟩ (.slice none 0 0)=U;have hgU:w3.grownBy U (some H):=by rw [<-hU];exact Zaa (Zaa (Zaa (gQ) _) _) _
      have u1:Box3 U H 38 (.int .i64 0) (.slice none 0 0) (.slice none 0 0):=by
       rw [<-hU];exact ((BX3.out.set0 _).set1 _).set2 _
      have hbU:Below w.heap.size w U:=HB3.out.grown hgU HB3.out.size (fun k hk=>by injection hk with hk;have:=HH.out;omega);have HRR:Hid (PostE (opT nm ts) ev w (.returned (.tuple #[.agg #[.int .i64 0,.slice none 0 0,.slice none 0 0],ev])) U):=hQ (by
       rw [HOP.out];exact ⟨hbU,rfl⟩)
      have tt0:=u1.c0;have tt1:=u1.c1;have tt2:=u1.c2;clear hU hgU u1 hbU r0 r1 r2 s0 s1 s2;exact bodyPost_ret (v:=.tuple #[.agg #[.int .i64 0,.slice none 0 0,.slice none 0 0],ev]) (by simp [results,Tryz.results112,go_sem,tt0,tt1,tt2]) rfl HRR.out
     ·obtain ⟨k4,L4,n4,c4,A4,m4,d4,rfl,hr4⟩:=hpost
      have HR4:=hQ (Zga hr4);clear hr4;go_wp2_with fail;generalize hU:((w3.setCell ⟨H,0,none⟩ (.int .i64 k4)).setCell ⟨H,1,none⟩ (.slice L4 n4 c4)).setCell ⟨H,2,none⟩ (.slice A4 m4 d4)=U;have hgU:w3.grownBy U (some H):=by rw [<-hU];exact Zaa (Zaa (Zaa (gQ) _) _) _
      have u1:Box3 U H 38 (.int .i64 k4) (.slice L4 n4 c4) (.slice A4 m4 d4):=by
       rw [<-hU];exact ((BX3.out.set0 _).set1 _).set2 _
      have hbU:Below w.heap.size w U:=HB3.out.grown hgU HB3.out.size (fun k hk=>by injection hk with hk;have:=HH.out;omega);have HRR:Hid (PostE (opT nm ts) ev w (.returned (.tuple #[.agg #[.int .i64 k4,.slice L4 n4 c4,.slice A4 m4 d4],.nilIface])) U):=hQ (by
       rw [HOP.out];exact ⟨hbU,k4,L4,n4,c4,A4,m4,d4,rfl,HR4.out U⟩)
      have tt0:=u1.c0;have tt1:=u1.c1;have tt2:=u1.c2;clear hU hgU u1 hbU r0 r1 r2 s0 s1 s2;exact bodyPost_ret (v:=.tuple #[.agg #[.int .i64 k4,.slice L4 n4 c4,.slice A4 m4 d4],.nilIface]) (by simp [results,Tryz.results112,go_sem,tt0,tt1,tt2]) rfl HRR.out
    | false=>
     have hw2:Zcu nm=2:=by
      unfold arB at ha;simp only [e0,e1,e2,e3,Bool.false_eq_true,if_false] at ha;unfold Zcu;cases f0:(nm.toList == [38]) with
      | true=>rfl
      | false=>
       cases f1:(nm.toList == [124]) with
       | true=>rfl
       | false=>
        cases f2:(nm.toList == [33]) with
        | true=>rfl
        | false=>simp only [f0,f1,f2,Bool.false_eq_true,if_false] at ha;exact absurd rfl ha
     have HOP:Hid (opT nm ts=ifAny (ts.all fun t=>decide (t.top.kind=2)) Zah):=hQ (by
      have hwn:Zcu nm=2:=by exact hw2
      have hgn:Zaq nm=Zah:=by unfold Zaq;simp only [e0,e1,Bool.false_eq_true,if_false]
      unfold opT ifAny;rw [hwn,hgn])
     have hbW:Below w.heap.size w ((w.alloc (.cells #[.int .i64 0,.slice none 0 0,.slice none 0 0] 38)).alloc (.cells #[.int .i64 2] 3)):=(bQ.alloc nQ _).alloc (by simp) _;have hcell:((w.alloc (.cells #[.int .i64 0,.slice none 0 0,.slice none 0 0] 38)).alloc (.cells #[.int .i64 2] 3)).cell? ⟨H+1,0,none⟩=some (.int .i64 2):=by
      rw [<-HH.out]
      have:=(Box1.new (w.alloc (.cells #[.int .i64 0,.slice none 0 0,.slice none 0 0] 38)) 3 (.int .i64 2)).c0
      simpa using this
     have hbox:Box3 ((w.alloc (.cells #[.int .i64 0,.slice none 0 0,.slice none 0 0] 38)).alloc (.cells #[.int .i64 2] 3)) H 38 (.int .i64 0) (.slice none 0 0) (.slice none 0 0):=by rw [<-HH.out];exact (Box3.new w _ _ _ _).alloc _
     have HEV:=hQ (Zcq ts 2 (H+1) ((w.alloc (.cells #[.int .i64 0,.slice none 0 0,.slice none 0 0] 38)).alloc (.cells #[.int .i64 2] 3)) A d (HK.out.keep hbW) HL.out hcell);have HBW:=hQ hbW;have BX:=hQ hbox;clear hbW hcell hbox;go_enter Tryz.func112,Tryz.ntmps112;go_wp2_with fail;refine HEV.out.mono ?_;rintro e w2 ⟨rfl,hb2⟩;have HB2:=hQ (HBW.out.trans (hb2.mono HBW.out.size));have BX2:=hQ (BX.out.under hb2 BX.out.lt);have HT:=hQ (Zcw Zah (ts.all fun t=>decide (t.top.kind=2)) 2 none none 0 0 0 0 w2 ev (fun _=>Zgb w2 2 (by decide) (by decide)) (HE.out.keep HB2.out));rw [<-HOP.out] at HT;generalize (ts.all fun t=>decide (t.top.kind=2))=al at *
     clear hb2;go_wp2_with fail;refine HT.out.mono ?_;rintro e w3 ⟨hb3,hpost⟩;have HB3:=hQ (HB2.out.trans (hb3.mono HB2.out.size));have BX3:=hQ (BX2.out.under hb3 BX2.out.lt);rw [HOP.out] at hpost;have r0:=BX3.out.c0;have r1:=BX3.out.c1;have r2:=BX3.out.c2;have s0:=BX3.out.free 0;have s1:=BX3.out.free 1;have s2:=BX3.out.free 2;clear hb3 HT;cases al
     ·have he:e=.returned (.tuple #[.agg #[.int .i64 0,.slice none 0 0,.slice none 0 0],ev]):=hpost
      subst he
      skip
      go_wp2_with fail
      generalize hU:((w3.setCell ⟨H,0,none⟩ (.int .i64 0)).setCell ⟨H,1,none⟩ (.slice none 0 0)).setCell ⟨H,2,none⟩ (.slice none 0 0)=U;have hgU:w3.grownBy U (some H):=by rw [<-hU];exact Zaa (Zaa (Zaa (gQ) _) _) _
      have u1:Box3 U H 38 (.int .i64 0) (.slice none 0 0) (.slice none 0 0):=by
       rw [<-hU];exact ((BX3.out.set0 _).set1 _).set2 _
      have hbU:Below w.heap.size w U:=HB3.out.grown hgU HB3.out.size (fun k hk=>by injection hk with hk;have:=HH.out;omega);have HRR:Hid (PostE (opT nm ts) ev w (.returned (.tuple #[.agg #[.int .i64 0,.slice none 0 0,.slice none 0 0],ev])) U):=hQ (by
       rw [HOP.out];exact ⟨hbU,rfl⟩)
      have tt0:=u1.c0;have tt1:=u1.c1;have tt2:=u1.c2;clear hU hgU u1 hbU r0 r1 r2 s0 s1 s2;exact bodyPost_ret (v:=.tuple #[.agg #[.int .i64 0,.slice none 0 0,.slice none 0 0],ev]) (by simp [results,Tryz.results112,go_sem,tt0,tt1,tt2]) rfl HRR.out
     ·obtain ⟨k4,L4,n4,c4,A4,m4,d4,rfl,hr4⟩:=hpost
      have HR4:=hQ (Zga hr4);clear hr4;go_wp2_with fail;generalize hU:((w3.setCell ⟨H,0,none⟩ (.int .i64 k4)).setCell ⟨H,1,none⟩ (.slice L4 n4 c4)).setCell ⟨H,2,none⟩ (.slice A4 m4 d4)=U;have hgU:w3.grownBy U (some H):=by rw [<-hU];exact Zaa (Zaa (Zaa (gQ) _) _) _
      have u1:Box3 U H 38 (.int .i64 k4) (.slice L4 n4 c4) (.slice A4 m4 d4):=by
       rw [<-hU];exact ((BX3.out.set0 _).set1 _).set2 _
      have hbU:Below w.heap.size w U:=HB3.out.grown hgU HB3.out.size (fun k hk=>by injection hk with hk;have:=HH.out;omega);have HRR:Hid (PostE (opT nm ts) ev w (.returned (.tuple #[.agg #[.int .i64 k4,.slice L4 n4 c4,.slice A4 m4 d4],.nilIface])) U):=hQ (by
       rw [HOP.out];exact ⟨hbU,k4,L4,n4,c4,A4,m4,d4,rfl,HR4.out U⟩)
      have tt0:=u1.c0;have tt1:=u1.c1;have tt2:=u1.c2;clear hU hgU u1 hbU r0 r1 r2 s0 s1 s2;exact bodyPost_ret (v:=.tuple #[.agg #[.int .i64 k4,.slice L4 n4 c4,.slice A4 m4 d4],.nilIface]) (by simp [results,Tryz.results112,go_sem,tt0,tt1,tt2]) rfl HRR.out
end Go.Proofs.YtlcedleebbgebaaGreatDoor
